package rdata_test

import (
	"math"
	"math/rand"
	"slices"
	"strings"
	"testing"

	"hustings/api"
	"hustings/comp"
	"hustings/name"
	"hustings/rdata"
)

const ex = "\x02ex\x00"

var kinds = []uint16{0, api.A, api.NS, 3, api.CNAME, api.SOA, 11, api.PTR, 13, api.MX, api.TXT, 17, api.AAAA, api.SRV, 40, api.OPT, 42, 99, 255, 65535}

func zeros(n int) string { return strings.Repeat("\x00", n) }

func valid() map[uint16][]string {
	long := strings.Repeat("\x01a", 127) + "\x00"
	names := []string{"\x00", ex, "\x02EX\x00", "\x03www\x02Ex\x00", long}
	return map[uint16][]string{
		api.A:     {zeros(4), "\x0A\x00\x00\x01", "\x01A\x01B"},
		api.AAAA:  {zeros(16), "\x01A" + zeros(14)},
		api.NS:    names,
		api.CNAME: names,
		api.PTR:   names,
		api.MX:    {"\x00\x0A" + ex, "\x01A\x00", "AB\x01C\x00"},
		api.SOA:   {"\x00\x00" + zeros(20), ex + "\x01A" + ex + strings.Repeat("Z", 20), long + long + zeros(20)},
		api.SRV:   {"ABCDEF\x00", zeros(6) + "\x03WWW\x02ex\x00", "\x01A\x01B\x01C" + long},
		api.TXT:   {"\x00", "\x01A", "\x01a\x00", "\x00\x00", "\xFF" + strings.Repeat("x", 255), "\x02A\x00\x01b"},
		0:         {"", "A", "\xC0\x00"},
		42:        {"", "\x01", "ABC" + zeros(300)},
		65535:     {"", "\x02EX\x00"},
	}
}

func invalid() map[uint16][]string {
	names := []string{"", "\x01", "\x01a", "\x00\x00", ex + "\x00", "\xC0\x00", "\x40", "\x01a\xC0\x00", "\x02ex", strings.Repeat("\x01a", 128) + "\x00"}
	return map[uint16][]string{
		api.A:     {"", zeros(3), zeros(5), zeros(16)},
		api.AAAA:  {"", zeros(4), zeros(15), zeros(17)},
		api.NS:    names,
		api.CNAME: names,
		api.PTR:   names,
		api.MX:    {"", "\x00", "\x00\x00", ex, "\x00\x00\x00\x00", "\x00\x0A\xC0\x00", "\x00\x0A\xC0\x01"},
		api.SOA:   {"", "\x00", zeros(2), zeros(21), zeros(23), "\x00\xC0\x00" + zeros(20), ex + "\xC0\x00" + zeros(20), ex + zeros(20)},
		api.SRV:   {"", zeros(6), zeros(5), zeros(8), zeros(6) + "\xC0\x00", zeros(6) + "\x01a"},
		api.TXT:   {"", "\x01", "\x02a", "\x00\x01", "\x01a\x02b", "\xFF" + strings.Repeat("x", 254)},
		api.OPT:   {"", "\x00", "\x00\x0A\x00\x00", ex},
	}
}

func TestP5_1May(t *testing.T) {
	for kind, l := range valid() {
		for _, data := range l {
			if !rdata.May(kind, data) {
				t.Errorf("%d: %q is valid", kind, data)
			}
		}
	}
	for kind, l := range invalid() {
		for _, data := range l {
			if rdata.May(kind, data) || rdata.Fold(kind, data) != "" || len(rdata.Names(kind, data)) != 0 {
				t.Errorf("%d: %q is invalid", kind, data)
			}
		}
	}
}

func TestP5_1NamesAndFold(t *testing.T) {
	for _, c := range []struct {
		kind  uint16
		data  string
		names []string
		fold  string
	}{
		{api.NS, "\x01A\x00", []string{"\x01A\x00"}, "\x01a\x00"},
		{api.CNAME, "\x02EX\x00", []string{"\x02EX\x00"}, ex},
		{api.PTR, "\x02EX\x00", []string{"\x02EX\x00"}, ex},
		{api.MX, "AB\x02EX\x00", []string{"\x02EX\x00"}, "AB\x02ex\x00"},
		{api.SOA, "\x01A\x00\x01B\x00" + strings.Repeat("C", 20), []string{"\x01A\x00", "\x01B\x00"}, "\x01a\x00\x01b\x00" + strings.Repeat("C", 20)},
		{api.SRV, "ABCDEF\x02EX\x00", []string{"\x02EX\x00"}, "ABCDEF\x02ex\x00"},
		{api.TXT, "\x02EX\x00", nil, "\x02EX\x00"},
		{api.A, "\x01A\x01B", nil, "\x01A\x01B"},
		{api.AAAA, strings.Repeat("A", 16), nil, strings.Repeat("A", 16)},
		{99, "\x02EX\x00", nil, "\x02EX\x00"},
	} {
		if l := rdata.Names(c.kind, c.data); !slices.Equal(l, c.names) {
			t.Errorf("%d: %q", c.kind, l)
		}
		if f := rdata.Fold(c.kind, c.data); f != c.fold {
			t.Errorf("%d: %q", c.kind, f)
		}
	}
}

func TestP5_1Compressed(t *testing.T) {
	want := map[uint16]bool{api.NS: true, api.CNAME: true, api.SOA: true, api.PTR: true, api.MX: true}
	for kind := range 1 << 16 {
		if rdata.Compressed(uint16(kind)) != want[uint16(kind)] {
			t.Error(kind)
		}
	}
}

func TestP5_2ReadCompressed(t *testing.T) {
	for _, c := range []struct {
		kind    uint16
		written string
		data    string
	}{
		{api.NS, "\xC0\x00", ex}, {api.CNAME, "\x01a\xC0\x00", "\x01a" + ex}, {api.PTR, "\xC0\x03", "\x00"},
		{api.MX, "\x00\x0A\xC0\x00", "\x00\x0A" + ex},
		{api.SOA, "\x01b\xC0\x00\xC0\x04" + zeros(20), "\x01b" + ex + "\x01b" + ex + zeros(20)},
		{api.SRV, zeros(6) + "\xC0\x00", zeros(6) + ex},
		{99, "\xC0\x00", "\xC0\x00"}, {api.TXT, "\x02\xC0\x00", "\x02\xC0\x00"},
	} {
		for _, more := range []string{"", "\x00", "more"} {
			data, e := rdata.Read(ex+c.written+more, 4, len(c.written), c.kind)
			if data != c.data || e != api.OK {
				t.Errorf("%d: %q: %q %v", c.kind, c.written, data, e)
			}
		}
	}
}

func TestP5_2ReadErrors(t *testing.T) {
	for _, c := range []struct {
		msg   string
		at, n int
		kind  uint16
		e     api.Errno
	}{
		{"", -1, 0, api.OPT, api.ErrArg}, {"", 0, -1, api.A, api.ErrArg}, {"", 1, 0, api.A, api.ErrArg}, {"abc", 0, 4, api.A, api.ErrArg}, {"abc", 3, 1, 99, api.ErrArg},
		{"abc", math.MaxInt, math.MaxInt, 99, api.ErrArg}, {"abc", 1, math.MaxInt, 99, api.ErrArg}, {"abc", math.MinInt, math.MaxInt, 99, api.ErrArg},
		{"", 0, 0, api.OPT, api.ErrForm}, {"abcd", 0, 4, api.OPT, api.ErrForm},
		{zeros(9), 0, 3, api.A, api.ErrShort}, {zeros(9), 0, 5, api.A, api.ErrForm}, {zeros(9), 9, 0, api.A, api.ErrShort},
		{zeros(20), 0, 15, api.AAAA, api.ErrShort}, {zeros(20), 0, 17, api.AAAA, api.ErrForm},
		{ex, 0, 3, api.NS, api.ErrShort}, {ex + "\x00", 0, 5, api.NS, api.ErrForm}, {ex, 4, 0, api.NS, api.ErrShort}, {"\x40", 0, 1, api.NS, api.ErrForm},
		{"\xC0\x00", 0, 2, api.CNAME, api.ErrLoop}, {"\xC0\x00", 0, 1, api.CNAME, api.ErrShort}, {strings.Repeat("\x01a", 128) + "\x00", 0, 257, api.PTR, api.ErrLong},
		{ex + "\x00\x0A\x01", 4, 3, api.MX, api.ErrShort}, {ex + "\x00", 4, 1, api.MX, api.ErrShort}, {ex + "\x00\x0A", 4, 2, api.MX, api.ErrShort}, {ex + "\x00\x0A\xC0\x06", 4, 4, api.MX, api.ErrLoop}, {ex + "\x00\x0A\xC0\x00\x00", 4, 5, api.MX, api.ErrForm},
		{zeros(30), 0, 21, api.SOA, api.ErrShort}, {zeros(30), 0, 23, api.SOA, api.ErrForm}, {zeros(30), 0, 1, api.SOA, api.ErrShort}, {"\x00\x80" + zeros(30), 0, 2, api.SOA, api.ErrForm},
		{zeros(30), 0, 6, api.SRV, api.ErrShort}, {zeros(30), 0, 8, api.SRV, api.ErrForm}, {zeros(30), 0, 5, api.SRV, api.ErrShort},
		{"", 0, 0, api.TXT, api.ErrShort}, {"\x02a", 0, 2, api.TXT, api.ErrShort}, {"\x00\x01a", 0, 2, api.TXT, api.ErrShort},
	} {
		if s, e := rdata.Read(c.msg, c.at, c.n, c.kind); s != "" || e != c.e {
			t.Errorf("%q %d %d %d: %q %v", c.msg, c.at, c.n, c.kind, s, e)
		}
	}
	if s, e := rdata.Read("abc", 3, 0, 99); s != "" || e != api.OK {
		t.Error(s, e)
	}
	// A name must not go on behind the data, only before it.
	if s, e := rdata.Read("\x01a\x00", 0, 1, api.NS); s != "" || e != api.ErrShort {
		t.Error(s, e)
	}
}

func TestP5_2Write(t *testing.T) {
	table := comp.New()
	b, _ := table.Put(nil, ex, true, true)
	write := func(kind uint16, data, want string) {
		t.Helper()
		was := len(b)
		l, e := rdata.Write(b, table, kind, data)
		if e != api.OK || string(l[was:]) != want || string(l[:was]) != string(b) {
			t.Errorf("%d: %q: %q %v", kind, data, l, e)
			return
		}
		b = l
	}
	write(api.MX, "\x00\x0A"+ex, "\x00\x0A\xC0\x00")
	write(api.SRV, zeros(6)+ex, zeros(6)+ex)
	write(api.SRV, zeros(6)+"\x03srv\x00", zeros(6)+"\x03srv\x00")
	write(api.NS, "\x03srv\x00", "\x03srv\x00") // what a SRV names may not be pointed to
	write(api.NS, "\x03srv\x00", string([]byte{0xC0, byte(len(b) - 5)}))
	write(api.CNAME, "\x01a"+ex, "\x01a\xC0\x00")
	at := len(b) - 4
	write(api.PTR, "\x01a"+ex, string([]byte{0xC0, byte(at)}))
	write(api.SOA, "\x01b"+ex+"\x01c\x01b"+ex+zeros(20), "\x01b\xC0\x00\x01c"+string([]byte{0xC0, byte(len(b))})+zeros(20))
	write(api.PTR, "\x01c\x01b"+ex, string([]byte{0xC0, byte(len(b) - 24)}))
	write(99, ex, ex)
	write(api.TXT, "\x02ex\x00", "\x02ex\x00")
	write(api.A, "\x02ex\x00", "\x02ex\x00")
	write(api.NS, "\x02EX\x00", "\x02EX\x00")
}

func TestP5_2WriteErrors(t *testing.T) {
	for kind, l := range invalid() {
		for _, data := range l {
			table := comp.New()
			if b, e := rdata.Write([]byte("x"), table, kind, data); len(b) != 0 || e != api.ErrForm {
				t.Errorf("%d: %q: %q %v", kind, data, b, e)
			}
			if b, e := rdata.Write([]byte("x"), nil, kind, data); len(b) != 0 || e != api.ErrNil {
				t.Errorf("%d: %q: %q %v", kind, data, b, e)
			}
			if _, is := table.At(ex); is {
				t.Errorf("%d: %q: the table has changed", kind, data)
			}
		}
	}
	for kind, l := range valid() {
		if b, e := rdata.Write(nil, nil, kind, l[0]); len(b) != 0 || e != api.ErrNil {
			t.Errorf("%d: %q %v", kind, b, e)
		}
	}
}

func TestP5_2NewMemory(t *testing.T) {
	for kind, l := range valid() {
		for _, data := range l {
			b := make([]byte, 1, 600)
			out, _ := rdata.Write(b, comp.New(), kind, data)
			for i := range out {
				out[i] = 7
			}
			for _, c := range b[:600] {
				if c != 0 {
					t.Errorf("%d: %q: shared", kind, data)
					break
				}
			}
		}
	}
}

func TestP5_3AndBack(t *testing.T) {
	r := rand.New(rand.NewSource(5))
	all := valid()
	for range 200 {
		table := comp.New()
		var b []byte
		for range 12 {
			kind := kinds[r.Intn(len(kinds))]
			if len(all[kind]) == 0 {
				continue
			}
			data := all[kind][r.Intn(len(all[kind]))]
			was := len(b)
			out, e := rdata.Write(b, table, kind, data)
			if e != api.OK || len(out)-was > len(data) {
				t.Fatalf("%d: %q: %v", kind, data, e)
			}
			b = out
			if got, e := rdata.Read(string(b)+"x", was, len(b)-was, kind); got != data || e != api.OK {
				t.Errorf("%d: %q: %q %v", kind, data, got, e)
			}
		}
	}
}

func TestP5_4Uncompressed(t *testing.T) {
	for kind, l := range valid() {
		for _, data := range l {
			if got, e := rdata.Read(data, 0, len(data), kind); got != data || e != api.OK {
				t.Errorf("%d: %q: %q %v", kind, data, got, e)
			}
		}
	}
	r := rand.New(rand.NewSource(54))
	bytes := "\x00\x01\x02aB\xC0\xC0\x04\x07"
	read := 0
	for range 20000 {
		b := make([]byte, r.Intn(12))
		for i := range b {
			b[i] = bytes[r.Intn(len(bytes))]
		}
		msg := "\x01A" + ex + "\x00" + string(b)
		if r.Intn(3) == 0 {
			msg += zeros(20)
		}
		kind := kinds[r.Intn(len(kinds))]
		data, e := rdata.Read(msg, 7, len(msg)-7, kind)
		if e == api.OK {
			read++
			if !rdata.May(kind, data) {
				t.Errorf("%d: %q: %q", kind, msg, data)
			}
		}
	}
	if read < 1000 {
		t.Error("too few were read", read)
	}
}

func TestP5_5Folded(t *testing.T) {
	for kind, l := range valid() {
		for _, data := range l {
			f := rdata.Fold(kind, data)
			if !rdata.May(kind, f) || len(f) != len(data) || rdata.Fold(kind, f) != f {
				t.Errorf("%d: %q: %q", kind, data, f)
			}
			names := rdata.Names(kind, data)
			if len(names) == 0 && f != data {
				t.Errorf("%d: %q: %q", kind, data, f)
			}
			for i := range names {
				names[i] = name.Fold(names[i])
			}
			if !slices.Equal(names, rdata.Names(kind, f)) {
				t.Errorf("%d: %q", kind, data)
			}
		}
	}
}

func TestP5_6ExactLength(t *testing.T) {
	exact := []uint16{api.A, api.AAAA, api.NS, api.CNAME, api.PTR, api.MX, api.SOA, api.SRV}
	for _, kind := range exact {
		for _, data := range valid()[kind] {
			if rdata.May(kind, data[:len(data)-1]) || rdata.May(kind, data+"\x00") || rdata.May(kind, data+"a") {
				t.Errorf("%d: %q", kind, data)
			}
		}
	}
}
