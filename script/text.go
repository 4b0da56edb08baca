package script

import (
	"iter"
	"math"
	"strconv"
	"strings"

	"hustings/api"
	"hustings/conf"
	"hustings/forwarder"
	"hustings/text"
)

// The words that lines begin with.
const (
	wordSeed   = "seed"
	wordTape   = "tape"
	wordClient = "client"
	wordReply  = "reply"
	wordTick   = "tick"
	wordUp     = "up"
	wordCounts = "counts"
	wordError  = "error"
)

const (
	noBytes = "-"
	digits  = "0123456789abcdef"
)

// showBytes returns bytes as hexadecimal digits.
func showBytes(s string) string {
	if s == "" {
		return noBytes
	}
	var b strings.Builder
	for i := range len(s) {
		b.WriteByte(digits[s[i]>>4])
		b.WriteByte(digits[s[i]&0xF])
	}
	return b.String()
}

// readBytes returns the bytes that hexadecimal digits stand for.
func readBytes(word string) (string, bool) {
	if word == noBytes {
		return "", true
	}
	if word == "" || len(word)%2 != 0 {
		return "", false
	}
	b := make([]byte, 0, len(word)/2)
	for i := 0; i < len(word); i += 2 {
		high, low := strings.IndexByte(digits, word[i]), strings.IndexByte(digits, word[i+1])
		if high < 0 || low < 0 {
			return "", false
		}
		b = append(b, byte(high<<4|low))
	}
	return string(b), true
}

// lines produces the lines of a valid script behind those of its configuration, without their line feeds.
func lines(x Script) iter.Seq[string] {
	return func(yield func(string) bool) {
		tape := wordTape
		for _, n := range x.First {
			tape += " " + strconv.FormatUint(n, 10)
		}
		if !yield(wordSeed+" "+strconv.FormatUint(x.Seed, 10)) || !yield(tape) {
			return
		}
		for _, e := range x.Events {
			if !yield(showEvent(e)) {
				return
			}
		}
	}
}

func showEvent(e forwarder.Event) string {
	switch e.Kind {
	case forwarder.Client:
		return wordClient + " " + strconv.Itoa(e.From) + " " + showBytes(e.Data)
	case forwarder.Reply:
		return wordReply + " " + strconv.Itoa(e.From) + " " + showBytes(e.Data)
	}
	return wordTick + " " + strconv.FormatInt(e.N, 10)
}

// Show returns the text of a script.
func Show(x Script) (string, api.Errno) {
	if !may(x) {
		return "", api.ErrArg
	}
	first, e := conf.Show(x.Config)
	if e != api.OK {
		return "", e
	}
	var b strings.Builder
	b.WriteString(first)
	for line := range lines(x) {
		b.WriteString(line + "\n")
		if b.Len() > api.MaxScript {
			return "", api.ErrLong
		}
	}
	return b.String(), api.OK
}

// split returns the lines of the configuration, how many there are, and what follows them.
func split(s string) (first string, count int, rest string) {
	size := 0
	for line := range text.Lines(s) {
		if word, _, _ := strings.Cut(line, " "); word == wordSeed {
			break
		}
		count++
		size = min(size+len(line)+1, len(s))
	}
	return s[:size], count, s[size:]
}

// Parse returns the script of a text, or the line and the error.
func Parse(s string) (x Script, line int, e api.Errno) {
	if len(s) > api.MaxScript {
		return Script{}, 0, api.ErrLong
	}
	first, count, rest := split(s)
	c, line, invalid := conf.Parse(first)
	if line > 0 {
		return Script{}, line, invalid
	}
	x.Config = c
	taken := 0
	for l, ended := range text.Lines(rest) {
		taken++
		if !ended || !x.take(taken, strings.Split(l, " ")) {
			return Script{}, count + taken, api.ErrForm
		}
	}
	if taken < 2 {
		return Script{}, count + taken + 1, api.ErrForm
	}
	// A wrong line anywhere comes before an invalid configuration.
	if invalid != api.OK {
		return Script{}, 0, invalid
	}
	return x, 0, api.OK
}

// take takes over the words of a line, numbered from 1 on behind the configuration, and reports whether it may stand there.
func (x *Script) take(at int, words []string) bool {
	switch at {
	case 1:
		return x.takeSeed(words)
	case 2:
		return x.takeTape(words)
	}
	e, is := readEvent(words)
	if is {
		x.Events = append(x.Events, e)
	}
	return is
}

func (x *Script) takeSeed(words []string) bool {
	if words[0] != wordSeed || len(words) != 2 {
		return false
	}
	n, is := text.Number(words[1], math.MaxUint64)
	x.Seed = n
	return is
}

func (x *Script) takeTape(words []string) bool {
	if words[0] != wordTape || len(words)-1 > api.MaxTape {
		return false
	}
	for _, word := range words[1:] {
		n, is := text.Number(word, math.MaxUint64)
		if !is {
			return false
		}
		x.First = append(x.First, n)
	}
	return true
}

// readEvent returns the event of the words of a line.
func readEvent(words []string) (forwarder.Event, bool) {
	switch {
	case words[0] == wordClient && len(words) == 3:
		return readDatagram(forwarder.Client, words[1], words[2])
	case words[0] == wordReply && len(words) == 3:
		return readDatagram(forwarder.Reply, words[1], words[2])
	case words[0] == wordTick && len(words) == 2:
		n, is := text.Number(words[1], api.MaxTicks)
		return forwarder.Event{Kind: forwarder.Tick, N: int64(n)}, is
	}
	return forwarder.Event{}, false
}

func readDatagram(kind uint8, number, bytes string) (forwarder.Event, bool) {
	n, is := text.Number(number, api.MaxInt)
	data, has := readBytes(bytes)
	return forwarder.Event{Kind: kind, From: int(n), Data: data}, is && has
}
