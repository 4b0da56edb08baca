package name

import (
	"strings"

	"hustings/api"
)

// The bytes that stand for themselves in a text, but for a dot and a backslash.
const (
	firstPlain = 0x21
	lastPlain  = 0x7E
)

// Text returns the text of a name, or nothing for bytes that are no name.
func Text(n string) string {
	if !May(n) {
		return ""
	}
	if n == root {
		return "."
	}
	var b strings.Builder
	for _, label := range Labels(n) {
		writeLabel(&b, label)
		b.WriteByte('.')
	}
	return b.String()
}

func writeLabel(b *strings.Builder, label string) {
	for i := range len(label) {
		switch c := label[i]; {
		case c == '.' || c == '\\':
			b.WriteByte('\\')
			b.WriteByte(c)
		case c < firstPlain || c > lastPlain:
			b.WriteByte('\\')
			b.WriteByte('0' + c/100)
			b.WriteByte('0' + c/10%10)
			b.WriteByte('0' + c%10)
		default:
			b.WriteByte(c)
		}
	}
}

// What a parser has read last.
const (
	plain     = iota // a rune that is complete
	backslash        // a backslash, whose meaning is open
	oneDigit         // a backslash and a digit
	twoDigits        // a backslash and two digits
)

// parser reads the text of a name rune by rune.
type parser struct {
	labels []string
	label  []byte
	state  int
	value  int // of the digits since the backslash
}

// Parse returns the name with this text.
func Parse(s string) (string, api.Errno) {
	if s == "." {
		return root, api.OK
	}
	var p parser
	for _, r := range s {
		if !p.take(r) {
			return "", api.ErrForm
		}
	}
	if !p.finish() {
		return "", api.ErrForm
	}
	// Of texts of the right form, Join can only refuse the lengths.
	n, e := Join(p.labels)
	if e != api.OK {
		return "", api.ErrLong
	}
	return n, api.OK
}

func (p *parser) take(r rune) bool {
	switch {
	case p.state == plain:
		return p.takePlain(r)
	case '0' <= r && r <= '9':
		return p.takeDigit(int(r - '0'))
	case p.state == backslash && firstPlain <= r && r <= lastPlain:
		p.add(byte(r))
		return true
	}
	return false
}

func (p *parser) takePlain(r rune) bool {
	switch {
	case r == '.':
		return p.endLabel()
	case r == '\\':
		p.state = backslash
	case r < firstPlain || r > lastPlain:
		return false
	default:
		p.add(byte(r))
	}
	return true
}

func (p *parser) takeDigit(digit int) bool {
	p.value = p.value*10 + digit
	if p.state != twoDigits {
		p.state++
		return true
	}
	if p.value > 255 {
		return false
	}
	p.add(byte(p.value))
	return true
}

func (p *parser) add(c byte) {
	p.label = append(p.label, c)
	p.state, p.value = plain, 0
}

func (p *parser) endLabel() bool {
	if len(p.label) == 0 {
		return false
	}
	p.labels = append(p.labels, string(p.label))
	p.label = p.label[:0]
	return true
}

// finish ends the last label, whose dot may be omitted.
func (p *parser) finish() bool {
	if p.state != plain {
		return false
	}
	return len(p.label) == 0 && len(p.labels) > 0 || p.endLabel()
}
