// Package name holds names as bytes, their order, and their texts.
package name

import (
	"strings"

	"hustings/api"
)

const root = "\x00"

// May reports whether bytes are a name.
func May(n string) bool {
	if len(n) > api.MaxName {
		return false
	}
	at := 0
	for at < len(n) && n[at] != 0 {
		if n[at] > api.MaxLabel {
			return false
		}
		at += 1 + int(n[at])
	}
	return at == len(n)-1
}

// lower folds each byte from A to Z; the length bytes of a name lie below A, so they stay.
func lower(s string) string {
	var b []byte // made only if there is something to fold, as names mostly are folded already
	for i := range len(s) {
		if c := s[i]; 'A' <= c && c <= 'Z' {
			if b == nil {
				b = []byte(s)
			}
			b[i] = c + 0x20
		}
	}
	if b == nil {
		return s
	}
	return string(b)
}

// Fold returns the folded name, or nothing for bytes that are no name.
func Fold(n string) string {
	if !May(n) {
		return ""
	}
	return lower(n)
}

// Labels returns the labels of a name, first one first.
func Labels(n string) []string {
	if !May(n) {
		return nil
	}
	var l []string
	for at := 0; n[at] != 0; {
		end := at + 1 + int(n[at])
		l = append(l, n[at+1:end])
		at = end
	}
	return l
}

// Parent returns the name without its first label, or false if it has none.
func Parent(n string) (string, bool) {
	if !May(n) || n == root {
		return "", false
	}
	return n[1+int(n[0]):], true
}

// Same reports whether two names are the same but for letter case.
func Same(a, b string) bool {
	return May(a) && May(b) && lower(a) == lower(b)
}

// Within reports whether a name is within a zone: an ancestor of it, or itself, is the zone.
func Within(n, zone string) bool {
	if !May(n) || !May(zone) {
		return false
	}
	at := 0
	for len(n)-at > len(zone) {
		at += 1 + int(n[at])
	}
	return lower(n[at:]) == lower(zone)
}

// Compare orders two names label by label, from the last one to the first.
func Compare(a, b string) int {
	if !May(a) || !May(b) {
		return 0
	}
	a, b = lower(a), lower(b)
	pa, pb := placesOf(a), placesOf(b)
	for i := 1; i <= pa.count && i <= pb.count; i++ {
		if c := strings.Compare(pa.fromEnd(a, i), pb.fromEnd(b, i)); c != 0 {
			return c
		}
	}
	return sign(pa.count - pb.count)
}

// places are where the labels of a name begin; an array, as sorting compares names often.
type places struct {
	at    [api.MaxName / 2]uint8
	count int
}

func placesOf(n string) places {
	var p places
	for at := 0; n[at] != 0; at += 1 + int(n[at]) {
		p.at[p.count] = uint8(at)
		p.count++
	}
	return p
}

// fromEnd returns the i-th label of a name, counted from the last one, which is the first.
func (p *places) fromEnd(n string, i int) string {
	at := int(p.at[p.count-i])
	return n[at+1 : at+1+int(n[at])]
}

func sign(n int) int {
	switch {
	case n < 0:
		return -1
	case n > 0:
		return 1
	}
	return 0
}

// Join returns the name with these labels.
func Join(l []string) (string, api.Errno) {
	size := len(root)
	for _, label := range l {
		if len(label) == 0 || len(label) > api.MaxLabel {
			return "", api.ErrArg
		}
		size += 1 + len(label)
	}
	if size > api.MaxName {
		return "", api.ErrLong
	}
	var b strings.Builder
	for _, label := range l {
		b.WriteByte(byte(len(label)))
		b.WriteString(label)
	}
	b.WriteString(root)
	return b.String(), api.OK
}
