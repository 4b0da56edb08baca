package comp_test

import (
	"math"
	"math/rand"
	"strings"
	"testing"

	"hustings/api"
	"hustings/comp"
	"hustings/name"
)

const (
	www = "\x03www\x02ex\x00"
	ftp = "\x03ftp\x02ex\x00"
	ex  = "\x02ex\x00"
)

func put(t *testing.T, table *comp.Table, b []byte, n string, compress, known bool) []byte {
	t.Helper()
	l, e := table.Put(b, n, compress, known)
	if e != api.OK {
		t.Fatalf("%q: %v", n, e)
	}
	return l
}

func TestP4_1Read(t *testing.T) {
	long := strings.Repeat("\x01a", 127) + "\x00" // MaxName bytes
	for _, c := range []struct {
		msg  string
		at   int
		n    string
		next int
	}{
		{www, 0, www, 8}, {www, 4, ex, 8}, {www, 7, "\x00", 8}, {"\x00", 0, "\x00", 1},
		{www + "\xC0\x04", 8, ex, 10},
		{www + "\x03ftp\xC0\x04", 8, ftp, 14},
		{www + "\x03ftp\xC0\x04\x01a\xC0\x08", 14, "\x01a" + ftp, 18},
		{www + "\x03ftp\xC0\x04\x01a\xC0\x08more", 14, "\x01a" + ftp, 18},
		{"xx\x00\xC0\x02", 3, "\x00", 5},
		{"\x01a\x00\xC0\x00\xC0\x03", 5, "\x01a\x00", 7},
		{long, 0, long, 255},
		{long + "\x01a\xC0\x02", 255, "\x01a" + long[2:], 259},
		{"\x3F" + strings.Repeat("x", 63) + "\x00", 0, "\x3F" + strings.Repeat("x", 63) + "\x00", 65},
	} {
		n, next, e := comp.Read(c.msg, c.at)
		if n != c.n || next != c.next || e != api.OK {
			t.Errorf("%q at %d: %q %d %v", c.msg, c.at, n, next, e)
		}
	}
}

func TestP4_1ReadFar(t *testing.T) {
	pad := strings.Repeat("\xFF", 16383)
	if n, next, e := comp.Read(pad+ex+"\xFF\xFF", 16387); n != ex || next != 16389 || e != api.OK {
		t.Errorf("%q %d %v", n, next, e)
	}
	// The last offset that a pointer reaches.
	if n, next, e := comp.Read(pad+ex+"\xFF\xFF\x00", 16383); n != ex || next != 16387 || e != api.OK {
		t.Errorf("%q %d %v", n, next, e)
	}
	if n, next, e := comp.Read(pad+ex+"\x01b\xFF\xFF", 16387); n != "\x01b"+ex || next != 16391 || e != api.OK {
		t.Errorf("%q %d %v", n, next, e)
	}
}

func TestP4_1Errors(t *testing.T) {
	long := strings.Repeat("\x01a", 127) + "\x00"
	for _, c := range []struct {
		msg string
		at  int
		e   api.Errno
	}{
		{"", -1, api.ErrArg}, {"", 1, api.ErrArg}, {"", 0, api.ErrShort}, {www, 9, api.ErrArg}, {www, 8, api.ErrShort},
		{www, math.MinInt, api.ErrArg}, {www, math.MaxInt, api.ErrArg},
		{"\x03a", 0, api.ErrShort}, {"\x01", 0, api.ErrShort}, {"\x01a", 0, api.ErrShort}, {"\x03abc", 0, api.ErrShort},
		{"\xC0", 0, api.ErrShort}, {"\x01a\xC0", 0, api.ErrShort},
		{"\x40", 0, api.ErrForm}, {"\x80", 0, api.ErrForm}, {"\xBF", 0, api.ErrForm}, {"\x7F" + strings.Repeat("x", 200), 0, api.ErrForm}, {"\x01a\x40\x00", 0, api.ErrForm},
		{"\xC0\x00", 0, api.ErrLoop}, {"\xC0\x02\x00", 0, api.ErrLoop}, {"\xFF\xFF", 0, api.ErrLoop},
		{"\x01a\xC0\x00", 0, api.ErrLoop},                           // to the beginning of the name itself
		{"\x00\x01a\xC0\x01", 1, api.ErrLoop},                       // the same, further on
		{"\x00\x01a\xC0\x03", 1, api.ErrLoop},                       // into the name itself
		{"\x01a\xC0\x00\x01b\xC0\x00", 4, api.ErrLoop},              // from there to there
		{"\xC0\x02\xC0\x00", 2, api.ErrLoop},                        // one after another, forwards
		{"\x00\x00\xC0\x03\xC0\x02", 4, api.ErrLoop},                // after a pointer, behind where that one led
		{"\x01a\x00\x01b\xC0\x04\x00", 3, api.ErrLoop},              // forwards within the name
		{long + "\x01b\xC0\x00", 255, api.ErrLong},                  // 257 bytes
		{"\x01a" + long, 0, api.ErrLong},                            // 257 bytes, by labels alone
		{strings.Repeat("\x01a", 127), 0, api.ErrShort},             // without the byte 0
		{strings.Repeat("\x01a", 127) + "\x02a", 0, api.ErrShort},   // too long and incomplete
		{strings.Repeat("\x01a", 127) + "\x40", 0, api.ErrForm},     // too long and of the wrong form
		{strings.Repeat("\x01a", 127) + "\x01a", 0, api.ErrLong},    // too long before the byte 0 is missing
		{strings.Repeat("\x01a", 127) + "\xC0\x00", 0, api.ErrLoop}, // a pointer has no length of its own
		{strings.Repeat("\x01a", 126) + "\x02aa\x00", 0, api.ErrLong},
	} {
		n, next, e := comp.Read(c.msg, c.at)
		if n != "" || next != 0 || e != c.e {
			t.Errorf("%q at %d: %q %d %v, not %v", c.msg, c.at, n, next, e, c.e)
		}
	}
}

func TestP4_1ManyPointers(t *testing.T) {
	b := []byte("\x00\x00")
	for at := 2; at <= 16382; at += 2 {
		b = append(b, 0xC0|byte((at-2)>>8), byte(at-2))
	}
	if n, next, e := comp.Read(string(b), len(b)-2); n != "\x00" || next != len(b) || e != api.OK {
		t.Errorf("%q %d %v", n, next, e)
	}
}

func TestP4_2Example(t *testing.T) {
	table := comp.New()
	b := put(t, table, nil, www, true, true)
	b = put(t, table, b, ftp, true, true)
	b = put(t, table, b, ex, true, true)
	b = put(t, table, b, "\x03WWW\x02ex\x00", true, true)
	if string(b) != www+"\x03ftp\xC0\x04"+"\xC0\x04"+"\x03WWW\xC0\x04" {
		t.Errorf("%q", b)
	}
	for n, at := range map[string]int{www: 0, ex: 4, ftp: 8, "\x03WWW\x02ex\x00": 16} {
		if got, is := table.At(n); got != at || !is {
			t.Errorf("%q: %d %v", n, got, is)
		}
	}
	for _, n := range []string{"\x00", "\x02Ex\x00", "", "\x03www\x00", "www", "\x03wWW\x02ex\x00"} {
		if got, is := table.At(n); got != 0 || is {
			t.Errorf("%q: %d %v", n, got, is)
		}
	}
}

func TestP4_2Known(t *testing.T) {
	table := comp.New()
	b := put(t, table, nil, www, true, false)
	if _, is := table.At(ex); is {
		t.Error("added without known")
	}
	b = put(t, table, b, www, true, true)
	if string(b) != www+www {
		t.Errorf("%q", b)
	}
	// Without compress everything is written by labels; what the table has keeps its offset.
	b = put(t, table, b, "\x01a"+www, false, true)
	if string(b) != www+www+"\x01a"+www {
		t.Errorf("%q", b)
	}
	for n, at := range map[string]int{www: 8, ex: 12, "\x01a" + www: 16} {
		if got, is := table.At(n); got != at || !is {
			t.Errorf("%q: %d %v", n, got, is)
		}
	}
	// The longest suffix that is known, though a shorter one is, too.
	b = put(t, table, b, "\x01b\x01a"+www, true, true)
	if !strings.HasSuffix(string(b), "\x00\x01b\xC0\x10") {
		t.Errorf("%q", b)
	}
	b = put(t, table, b, ftp, false, false)
	if _, is := table.At(ftp); is || !strings.HasSuffix(string(b), ftp) {
		t.Errorf("%q", b)
	}
}

func TestP4_2FarOffsets(t *testing.T) {
	table := comp.New()
	b := put(t, table, make([]byte, 16380), www, true, true)
	if at, is := table.At(www); at != 16380 || !is {
		t.Error(at, is)
	}
	if at, is := table.At(ex); is {
		t.Error(at, is)
	}
	b = put(t, table, b, www, true, true)
	if string(b[16388:]) != "\xFF\xFC" {
		t.Errorf("%q", b[16388:])
	}
	b = put(t, table, b, ex, true, true)
	if string(b[16390:]) != ex {
		t.Errorf("%q", b[16390:])
	}
	table = comp.New()
	put(t, table, make([]byte, 16379), www, true, true)
	if at, is := table.At(ex); at != 16383 || !is {
		t.Error(at, is)
	}
}

func TestP4_2Root(t *testing.T) {
	table := comp.New()
	b := put(t, table, nil, "\x00", true, true)
	b = put(t, table, b, "\x00", true, true)
	if _, is := table.At("\x00"); is || string(b) != "\x00\x00" {
		t.Errorf("%q", b)
	}
}

func TestP4_2Errors(t *testing.T) {
	var none *comp.Table
	if b, e := none.Put([]byte("x"), ex, true, true); len(b) != 0 || e != api.ErrNil {
		t.Error(b, e)
	}
	if b, e := none.Put([]byte("x"), "bad", true, true); len(b) != 0 || e != api.ErrNil {
		t.Error(b, e)
	}
	if at, is := none.At(ex); at != 0 || is {
		t.Error(at, is)
	}
	table := comp.New()
	for _, n := range []string{"", "ex", "\x02ex", "\xC0\x00", "\x00\x00", "\x40" + strings.Repeat("a", 64) + "\x00"} {
		if b, e := table.Put([]byte("x"), n, true, true); len(b) != 0 || e != api.ErrForm {
			t.Errorf("%q: %q %v", n, b, e)
		}
		if _, is := table.At(n); is {
			t.Errorf("%q was added", n)
		}
	}
	var zero comp.Table
	if _, is := zero.At(ex); is {
		t.Error("a zero table is empty")
	}
	b := put(t, &zero, nil, ex, true, true)
	if b = put(t, &zero, b, ex, true, true); string(b) != ex+"\xC0\x00" {
		t.Errorf("%q", b)
	}
}

func TestP4_2NewMemory(t *testing.T) {
	for _, n := range []string{"\x00", ex, www} {
		for _, compress := range []bool{false, true} {
			table := comp.New()
			put(t, table, nil, ex, true, true)
			b := make([]byte, 1, 50)
			l := put(t, table, b, n, compress, false)
			for i := range l {
				l[i] = 7
			}
			for i, c := range b[:50] {
				if c != 0 {
					t.Errorf("%q: changed at %d", n, i)
				}
			}
		}
	}
}

// names are related ones, some in other letter case, some long.
func names() []string {
	l := []string{"\x00", strings.Repeat("\x01a", 127) + "\x00", strings.Repeat("\x3F"+strings.Repeat("b", 63), 3) + "\x00"}
	for _, x := range []string{"\x01a", "\x01b", "\x03www", "\x03WWW", "\x02\x00\x01"} {
		for _, y := range []string{"", "\x01a", "\x02ex", "\x02EX"} {
			for _, z := range []string{"\x00", "\x01a\x00", "\x03com\x00"} {
				l = append(l, x+y+z)
			}
		}
	}
	return l
}

func TestP4_3to5AndBack(t *testing.T) {
	r := rand.New(rand.NewSource(4))
	l := names()
	for range 200 {
		table := comp.New()
		var b []byte
		if r.Intn(3) == 0 {
			b = make([]byte, 16000+r.Intn(400))
		}
		var ns []string
		ends := []int{len(b)}
		for range r.Intn(30) {
			n := l[r.Intn(len(l))]
			compress, known := r.Intn(4) > 0, r.Intn(4) > 0
			suffix := ""
			for i := 0; n[i] != 0 && suffix == ""; i += 1 + int(n[i]) {
				if _, is := table.At(n[i:]); is {
					suffix = n[i:]
				}
			}
			was := len(b)
			b = put(t, table, b, n, compress, known)
			written := string(b[was:])
			if compress && suffix != "" {
				to, _ := table.At(suffix)
				if written != n[:len(n)-len(suffix)]+string([]byte{0xC0 | byte(to>>8), byte(to)}) || to > api.MaxPointer || to >= was {
					t.Errorf("%q by %q: %q", n, suffix, written)
				}
			} else if written != n {
				t.Errorf("%q: %q", n, written)
			}
			if len(written) > len(n) {
				t.Errorf("%q: longer", n)
			}
			ns, ends = append(ns, n), append(ends, len(b))
		}
		for i, n := range ns {
			got, next, e := comp.Read(string(b), ends[i])
			if got != n || next != ends[i+1] || e != api.OK {
				t.Errorf("%q: %q %d %v", n, got, next, e)
			}
		}
	}
}

func TestP4_6LaterBytes(t *testing.T) {
	for _, n := range names() {
		for _, more := range []string{"", "\x00", "\xFF\xFF", "abc"} {
			if got, next, e := comp.Read("x"+n+more, 1); got != n || next != 1+len(n) || e != api.OK {
				t.Errorf("%q", n)
			}
		}
		for i := range len(n) {
			if got, next, e := comp.Read("x"+n[:i], 1); got != "" || next != 0 || e != api.ErrShort {
				t.Errorf("%q: %q %d %v", n[:i], got, next, e)
			}
		}
	}
}

func TestP4_7Identity(t *testing.T) {
	r := rand.New(rand.NewSource(7))
	bytes := "\x00\x01\x02\x03aB\xC0\xC1\x40\x80\x3F\x05"
	read := 0
	for range 20000 {
		b := make([]byte, 1+r.Intn(24))
		for i := range b {
			b[i] = bytes[r.Intn(len(bytes))]
		}
		at := r.Intn(len(b))
		n, next, e := comp.Read(string(b), at)
		if e != api.OK {
			continue
		}
		read++
		if !name.May(n) || next <= at || next > len(b) {
			t.Errorf("%q at %d: %q %d", b, at, n, next)
		}
		if m, _, e := comp.Read("\x01y"+n, 2); m != n || e != api.OK {
			t.Errorf("%q: %q %v", n, m, e)
		}
	}
	if read < 100 {
		t.Error("too few names were read", read)
	}
}
