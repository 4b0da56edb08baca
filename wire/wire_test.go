package wire_test

import (
	"math/rand"
	"strings"
	"testing"

	"hustings/api"
	"hustings/edns"
	"hustings/head"
	"hustings/rdata"
	"hustings/wire"
)

const (
	ex    = "\x02ex\x00"
	www   = "\x03www\x02ex\x00"
	empty = "\x00\x07\x00\x00\x00\x00\x00\x00\x00\x00\x00\x00"
	query = "\x00\x01\x01\x00\x00\x01\x00\x00\x00\x00\x00\x00\x02ex\x00\x00\x01\x00\x01"
)

func exA() api.Question { return api.Question{Name: ex, Type: api.A, Class: api.IN} }

func a(n, data string, ttl uint32) api.Record {
	return api.Record{Name: n, Type: api.A, Class: api.IN, TTL: ttl, Data: data}
}

func both(t *testing.T, m api.Msg, s string) {
	t.Helper()
	if got, e := wire.Encode(m); got != s || e != api.OK {
		t.Errorf("%q, not %q: %v", got, s, e)
	}
	if n, e := wire.Size(m); n != len(s) || e != api.OK {
		t.Error(n, e)
	}
	if got, e := wire.Decode(s); !wire.Same(got, m) || e != api.OK {
		t.Errorf("%q: %v %v", s, got, e)
	}
	if !wire.May(m) {
		t.Error("not valid", m)
	}
}

func TestP7_1Examples(t *testing.T) {
	both(t, api.Msg{Head: api.Head{ID: 7}}, empty)
	q := []api.Question{exA()}
	both(t, api.Msg{Head: api.Head{ID: 1, RD: true}, Questions: q}, query)
	both(t, api.Msg{Head: api.Head{ID: 1, RD: true, QR: true}, Questions: q, Answers: []api.Record{a(ex, "\x0A\x00\x00\x01", 5)}},
		"\x00\x01\x81\x00\x00\x01\x00\x01\x00\x00\x00\x00"+query[12:]+"\xC0\x0C\x00\x01\x00\x01\x00\x00\x00\x05\x00\x04\x0A\x00\x00\x01")
	both(t, api.Msg{HasEdns: true, Edns: api.Edns{Size: 1232}},
		"\x00\x00\x00\x00\x00\x00\x00\x00\x00\x00\x00\x01"+"\x00\x00\x29\x04\xD0\x00\x00\x00\x00\x00\x00")
}

func TestP7_1Sections(t *testing.T) {
	m := api.Msg{
		Head:      api.Head{ID: 0x0102, QR: true, Op: 5, Code: 6},
		Questions: []api.Question{{Name: www, Type: 0x0304, Class: 0x0506}, {Name: ex, Type: api.OPT, Class: 255}},
		Answers:   []api.Record{{Name: "\x02EX\x00", Type: api.CNAME, Class: 3, TTL: 0x01020304, Data: www}},
		Authority: []api.Record{{Name: ex, Type: api.MX, Class: 1, Data: "\x00\x0A\x01m" + ex}, {Name: "\x00", Type: api.TXT, Class: 1, Data: "\x01a"}},
		Extra:     []api.Record{{Name: "\x01m" + ex, Type: api.SRV, Class: 1, Data: "\x00\x00\x00\x00\x00\x00" + www}},
		HasEdns:   true,
		Edns:      api.Edns{Size: 9, Ext: 1, Version: 2, Flags: 3, Options: []api.Option{{Code: 10, Data: "x"}}},
	}
	both(t, m, "\x01\x02\xA8\x06\x00\x02\x00\x01\x00\x02\x00\x02"+
		www+"\x03\x04\x05\x06"+"\xC0\x10\x00\x29\x00\xFF"+
		"\x02EX\x00\x00\x05\x00\x03\x01\x02\x03\x04\x00\x02\xC0\x0C"+
		"\xC0\x10\x00\x0F\x00\x01\x00\x00\x00\x00\x00\x06\x00\x0A\x01m\xC0\x10"+
		"\x00\x00\x10\x00\x01\x00\x00\x00\x00\x00\x02\x01a"+
		"\xC0\x3C\x00\x21\x00\x01\x00\x00\x00\x00\x00\x0E\x00\x00\x00\x00\x00\x00"+www+
		"\x00\x00\x29\x00\x09\x01\x02\x00\x03\x00\x05\x00\x0A\x00\x01x")
}

func refuse(t *testing.T, m api.Msg, may bool, e api.Errno) {
	t.Helper()
	if wire.May(m) != may {
		t.Errorf("May: %v", !may)
	}
	if s, got := wire.Encode(m); s != "" || got != e {
		t.Errorf("Encode: %d bytes, %v, not %v", len(s), got, e)
	}
	if n, got := wire.Size(m); n != 0 || got != e {
		t.Errorf("Size: %d, %v, not %v", n, got, e)
	}
}

func TestP7_1Invalid(t *testing.T) {
	bad := []api.Record{{Name: "ex", Type: 99}}
	short := []api.Record{{Name: ex, Type: api.A, Data: "\x00"}}
	opt := []api.Record{{Name: "\x00", Type: api.OPT}}
	for _, l := range [][]api.Record{bad, short, opt} {
		for _, m := range []api.Msg{{Answers: l}, {Authority: l}, {Extra: l}} {
			refuse(t, m, false, api.ErrForm)
		}
	}
	refuse(t, api.Msg{Head: api.Head{Op: 16}}, false, api.ErrForm)
	refuse(t, api.Msg{Head: api.Head{Code: 16}}, false, api.ErrForm)
	refuse(t, api.Msg{Questions: []api.Question{exA(), {Name: "\x01"}}}, false, api.ErrForm)
	for _, x := range []api.Edns{{Size: 1}, {Ext: 1}, {Version: 1}, {Flags: 1}, {Options: make([]api.Option, 1)}} {
		refuse(t, api.Msg{Edns: x}, false, api.ErrForm)
	}
	both(t, api.Msg{Edns: api.Edns{Options: []api.Option{}}, Questions: []api.Question{}}, "\x00\x00"+empty[2:])
}

func TestP7_1Counts(t *testing.T) {
	r := make([]api.Record, 65536)
	for i := range r {
		r[i] = api.Record{Name: "\x00", Type: 99}
	}
	q := make([]api.Question, 65536)
	for i := range q {
		q[i].Name = "\x00"
	}
	for _, m := range []api.Msg{{Questions: q}, {Answers: r}, {Authority: r}, {Extra: r}, {Extra: r[:65535], HasEdns: true}} {
		refuse(t, m, false, api.ErrForm)
	}
	for _, m := range []api.Msg{{Questions: q[:65535]}, {Answers: r[:65535]}, {Authority: r[:65535]}, {Extra: r[:65535]}, {Extra: r[:65534], HasEdns: true}} {
		refuse(t, m, true, api.ErrLong)
	}
}

func TestP7_1Long(t *testing.T) {
	// A header of 12 bytes, and a record of 11 bytes beside its data.
	room := 65535 - 12 - 11
	big := func(n int) api.Msg {
		return api.Msg{Answers: []api.Record{{Name: "\x00", Type: 99, Data: strings.Repeat("x", n)}}}
	}
	if s, e := wire.Encode(big(room)); len(s) != 65535 || e != api.OK {
		t.Error(len(s), e)
	} else if m, e := wire.Decode(s); !wire.Same(m, big(room)) || e != api.OK {
		t.Error(e)
	}
	for _, n := range []int{room + 1, 65535, 65536, 70000} {
		refuse(t, big(n), true, api.ErrLong)
	}
	opt := func(n int) api.Msg {
		return api.Msg{HasEdns: true, Edns: api.Edns{Options: []api.Option{{Data: strings.Repeat("x", n)}}}}
	}
	if n, e := wire.Size(opt(room - 4)); n != 65535 || e != api.OK {
		t.Error(n, e)
	}
	for _, n := range []int{room - 3, 65531, 65535, 65536} {
		refuse(t, opt(n), true, api.ErrLong)
	}
	q := make([]api.Question, 13105)
	for i := range q {
		q[i].Name = "\x00"
	}
	refuse(t, api.Msg{Questions: q}, true, api.ErrLong)
	if n, e := wire.Size(api.Msg{Questions: q[:13104]}); n != 65532 || e != api.OK {
		t.Error(n, e)
	}
	// Invalid and too long.
	m := big(70000)
	m.Op = 16
	refuse(t, m, false, api.ErrForm)
	m = big(70000)
	m.Extra = []api.Record{{Name: "bad"}}
	refuse(t, m, false, api.ErrForm)
}

func TestP7_1Same(t *testing.T) {
	m := func() api.Msg {
		return api.Msg{Head: api.Head{ID: 1}, Questions: []api.Question{exA()}, Answers: []api.Record{a(ex, "1234", 1)}, Authority: []api.Record{a(ex, "1234", 1)},
			Extra: []api.Record{a(ex, "1234", 1)}, HasEdns: true, Edns: api.Edns{Size: 1, Options: []api.Option{{Code: 1}}}}
	}
	if !wire.Same(m(), m()) || !wire.Same(api.Msg{}, api.Msg{Questions: []api.Question{}, Answers: []api.Record{}}) {
		t.Error("the same")
	}
	for i, change := range []func(*api.Msg){
		func(m *api.Msg) { m.ID = 2 }, func(m *api.Msg) { m.CD = true }, func(m *api.Msg) { m.Code = 1 },
		func(m *api.Msg) { m.Questions[0].Name = "\x02eX\x00" }, func(m *api.Msg) { m.Questions[0].Type = 2 }, func(m *api.Msg) { m.Questions = nil },
		func(m *api.Msg) { m.Answers[0].TTL = 2 }, func(m *api.Msg) { m.Answers[0].Data = "1235" }, func(m *api.Msg) { m.Answers = append(m.Answers, a(ex, "1234", 1)) },
		func(m *api.Msg) { m.Authority[0].Class = 2 }, func(m *api.Msg) { m.Authority = nil },
		func(m *api.Msg) { m.Extra[0].Name = www }, func(m *api.Msg) { m.Extra = m.Extra[:0] },
		func(m *api.Msg) { m.HasEdns = false }, func(m *api.Msg) { m.Edns.Size = 2 }, func(m *api.Msg) { m.Edns.Options[0].Data = "x" },
	} {
		n := m()
		change(&n)
		if wire.Same(m(), n) || wire.Same(n, m()) {
			t.Error("not the same", i)
		}
	}
}

// counted is a header with these counts, followed by bytes.
func counted(q, an, ns, ar byte, rest string) string {
	return "\x00\x00\x00\x00\x00" + string([]byte{q, 0, an, 0, ns, 0, ar}) + rest
}

const (
	mid = "\x00\x01\x00\x01\x00\x00\x00\x05" // of an A record between its name and its length
	opt = "\x00\x00\x29\x00\x00\x00\x00\x00\x00\x00\x00"
)

func TestP7_2Errors(t *testing.T) {
	for i, c := range []struct {
		s string
		e api.Errno
	}{
		{"", api.ErrShort}, {empty[:11], api.ErrShort}, {empty + "\x00", api.ErrLong}, {query + "\x00", api.ErrLong},
		{strings.Repeat("\x00", 65536), api.ErrLong}, {strings.Repeat("\xFF", 65536), api.ErrLong}, {strings.Repeat("\x00", 65535), api.ErrLong},
		{counted(1, 0, 0, 0, ""), api.ErrShort}, {counted(1, 0, 0, 0, "\x40"), api.ErrForm}, {counted(1, 0, 0, 0, "\xC0\x0C"), api.ErrLoop},
		{counted(1, 0, 0, 0, strings.Repeat("\x01a", 128)+"\x00\x00\x01\x00\x01"), api.ErrLong},
		{counted(1, 0, 0, 0, ex), api.ErrShort}, {counted(1, 0, 0, 0, ex+"\x00\x01\x00"), api.ErrShort},
		{counted(2, 0, 0, 0, ex+"\x00\x01\x00\x01"), api.ErrShort},
		{counted(0, 1, 0, 0, ""), api.ErrShort}, {counted(0, 1, 0, 0, "\x80"), api.ErrForm}, {counted(0, 1, 0, 0, ex+mid), api.ErrShort}, {counted(0, 1, 0, 0, ex+mid+"\x00"), api.ErrShort},
		{counted(0, 1, 0, 0, ex+mid+"\x00\x04123"), api.ErrShort}, {counted(0, 1, 0, 0, ex+mid+"\x00\x03123"), api.ErrShort}, {counted(0, 1, 0, 0, ex+mid+"\x00\x0512345"), api.ErrForm},
		{counted(0, 1, 0, 0, ex+mid+"\x00\x05123"), api.ErrShort}, {counted(0, 1, 0, 0, ex+mid+"\x00\x0412345"), api.ErrLong},
		{counted(0, 1, 0, 0, opt), api.ErrForm}, {counted(0, 0, 1, 0, opt), api.ErrForm}, {counted(0, 0, 0, 2, opt+opt), api.ErrForm},
		{counted(0, 0, 0, 1, ex+opt[1:]), api.ErrForm}, {counted(0, 0, 0, 1, "\x00\x00\x29\x00\x00\x00\x00\x00\x00\x00\x01x"), api.ErrShort},
		{counted(0, 0, 0, 1, "\x00\x00\x29\x00\x00\x00\x00\x00\x00\x00\x05x"), api.ErrShort}, {counted(0, 1, 0, 0, "\x00\x00\x29\x00\x00\x00\x00\x00\x00\x00\x01x"), api.ErrForm},
		{counted(0, 0, 0, 1, ex+"\x00\x29\x00\x00\x00\x00\x00\x00\x00\x01x"), api.ErrForm},
		{counted(0, 0, 0, 1, opt+"\x00"), api.ErrLong},
		{counted(0, 1, 0, 0, ex+"\x00\x02\x00\x01\x00\x00\x00\x00\x00\x02\xC0\x1A"), api.ErrLoop},
		{counted(0, 1, 0, 0, ex+"\x00\x02\x00\x01\x00\x00\x00\x00\x00\x03\xC0\x0Cx"), api.ErrForm},
		{counted(0, 1, 0, 0, ex+"\x00\x10\x00\x01\x00\x00\x00\x00\x00\x00"), api.ErrShort},
		{counted(0, 0, 1, 0, ex+mid+"\x00\x03123"), api.ErrShort}, {counted(0, 0, 0, 1, ex+mid+"\x00\x0512345"), api.ErrForm},
	} {
		m, e := wire.Decode(c.s)
		if e != c.e || !wire.Same(m, api.Msg{}) {
			t.Errorf("%d: %v, not %v", i, e, c.e)
		}
	}
}

func TestP7_2Decode(t *testing.T) {
	// Compressed otherwise than we do: the name of a SRV, a pointer to a pointer, an OPT record in front, its name by a pointer.
	s := counted(1, 1, 0, 3, www+"\x00\x01\x00\x01"+
		"\xC0\x0C\x00\x21\x00\x01\x00\x00\x00\x00\x00\x08\x00\x00\x00\x00\x00\x00\xC0\x10"+
		"\xC0\x13\x00\x29\x04\xD0\x01\x00\x80\x00\x00\x04\x00\x03\x00\x00"+
		"\xC0\x2A\x00\x01\x00\x01\x00\x00\x00\x00\x00\x041234"+
		www+"\x00\x01\x00\x01\xFF\xFF\xFF\xFF\x00\x045678")
	m, e := wire.Decode(s)
	want := api.Msg{
		Questions: []api.Question{{Name: www, Type: api.A, Class: api.IN}},
		Answers:   []api.Record{{Name: www, Type: api.SRV, Class: api.IN, Data: "\x00\x00\x00\x00\x00\x00" + ex}},
		Extra:     []api.Record{a(ex, "1234", 0), a(www, "5678", 0xFFFFFFFF)},
		HasEdns:   true,
		Edns:      api.Edns{Size: 1232, Ext: 1, Flags: 0x8000, Options: []api.Option{{Code: 3}}},
	}
	if e != api.OK || !wire.Same(m, want) {
		t.Errorf("%v %v", m, e)
	}
}

// TestP7_2OwnEncodingTooLong reads names of SRV records by pointers, which we do not write.
func TestP7_2OwnEncodingTooLong(t *testing.T) {
	long := "\x3F" + strings.Repeat("a", 63) + "\x3F" + strings.Repeat("b", 63) + "\x3F" + strings.Repeat("c", 63) + "\x3F" + strings.Repeat("d", 61) + "\x00"
	long = strings.Replace(long, "\x3Fd", "\x3Dd", 1)
	build := func(n byte) string {
		return counted(1, n, 0, 0, long+"\x00\x01\x00\x01") + strings.Repeat("\xC0\x0C\x00\x21\x00\x01\x00\x00\x00\x00\x00\x08\x00\x00\x00\x00\x00\x00\xC0\x0C", int(n))
	}
	// 271 bytes, and 12 + 6 + 255 for each record as we write it.
	if m, e := wire.Decode(build(239)); e != api.OK || len(m.Answers) != 239 {
		t.Error(e)
	} else if n, e := wire.Size(m); n != 271+239*273 || e != api.OK {
		t.Error(n, e)
	}
	if m, e := wire.Decode(build(240)); e != api.ErrLong || !wire.Same(m, api.Msg{}) {
		t.Error(e)
	}
}

var namePool = []string{"\x00", ex, "\x02EX\x00", www, "\x03WWW\x02ex\x00", "\x01a\x01b\x01c\x00", "\x01b\x01c\x00", "\x01c\x00", "\x3F" + strings.Repeat("l", 63) + ex}

func randomData(r *rand.Rand, kind uint16) string {
	b := make([]byte, 20)
	r.Read(b)
	n := func() string { return namePool[r.Intn(len(namePool))] }
	switch kind {
	case api.A:
		return string(b[:4])
	case api.AAAA:
		return string(b[:16])
	case api.NS, api.CNAME, api.PTR:
		return n()
	case api.MX:
		return string(b[:2]) + n()
	case api.SOA:
		return n() + n() + string(b)
	case api.SRV:
		return string(b[:6]) + n()
	case api.TXT:
		return "\x02" + string(b[:2]) + "\x00"
	}
	return string(b[:r.Intn(8)])
}

func randomMsg(r *rand.Rand) api.Msg {
	kinds := []uint16{api.A, api.NS, api.CNAME, api.SOA, api.PTR, api.MX, api.TXT, api.AAAA, api.SRV, 99, 0}
	records := func() []api.Record {
		var l []api.Record
		for range r.Intn(4) {
			k := kinds[r.Intn(len(kinds))]
			l = append(l, api.Record{Name: namePool[r.Intn(len(namePool))], Type: k, Class: uint16(r.Intn(4)), TTL: r.Uint32(), Data: randomData(r, k)})
		}
		return l
	}
	m := api.Msg{Head: head.From(uint16(r.Uint32())), Answers: records(), Authority: records(), Extra: records()}
	m.ID = uint16(r.Uint32())
	for range r.Intn(3) {
		m.Questions = append(m.Questions, api.Question{Name: namePool[r.Intn(len(namePool))], Type: uint16(r.Uint32()), Class: uint16(r.Uint32())})
	}
	if r.Intn(2) == 0 {
		m.HasEdns = true
		m.Edns, _ = edns.Read(uint16(r.Uint32()), r.Uint32(), "")
		for range r.Intn(3) {
			m.Edns.Options = append(m.Edns.Options, api.Option{Code: uint16(r.Uint32()), Data: strings.Repeat("o", r.Intn(4))})
		}
	}
	return m
}

// plainSize is the number of bytes without compression.
func plainSize(m api.Msg) int {
	n := 12
	for _, q := range m.Questions {
		n += len(q.Name) + 4
	}
	for _, l := range [][]api.Record{m.Answers, m.Authority, m.Extra} {
		for _, r := range l {
			n += len(r.Name) + 10 + len(r.Data)
		}
	}
	if m.HasEdns {
		_, _, data, _ := edns.Write(m.Edns)
		n += 11 + len(data)
	}
	return n
}

func TestP7_3to6Random(t *testing.T) {
	r := rand.New(rand.NewSource(7))
	for range 400 {
		m := randomMsg(r)
		s, e := wire.Encode(m)
		if e != api.OK {
			t.Fatal(m, e)
		}
		if got, e := wire.Decode(s); !wire.Same(got, m) || e != api.OK {
			t.Errorf("%v: %v %v", m, got, e)
		}
		if n, _ := wire.Size(m); n != len(s) || n < 12 || n > plainSize(m) {
			t.Errorf("%d bytes, %d without compression", n, plainSize(m))
		}
		for n := range len(s) {
			if _, e := wire.Decode(s[:n]); e == api.OK {
				t.Errorf("%q, truncated at %d", s, n)
			}
		}
		for _, more := range []string{"\x00", "\x00\x00", ex} {
			if _, e := wire.Decode(s + more); e != api.ErrLong {
				t.Errorf("%q and more: %v", s, e)
			}
		}
		extra := len(m.Extra)
		if m.HasEdns {
			extra++
		}
		first, _ := head.Write(m.Head, head.Counts{len(m.Questions), len(m.Answers), len(m.Authority), extra})
		if s[:12] != first {
			t.Errorf("%q", s)
		}
		m.ID ^= 0x0101
		if other, _ := wire.Encode(m); other[2:] != s[2:] || other[0] == s[0] || other[1] == s[1] {
			t.Errorf("%q %q", s, other)
		}
	}
}

// TestP7_3Fuzzed changes bytes of encodings: what is still read is read again from its own encoding.
func TestP7_3Fuzzed(t *testing.T) {
	r := rand.New(rand.NewSource(73))
	read := 0
	for range 6000 {
		s, _ := wire.Encode(randomMsg(r))
		b := []byte(s)
		for range 1 + r.Intn(3) {
			b[r.Intn(len(b))] = byte(r.Intn(256))
		}
		m, e := wire.Decode(string(b))
		if e != api.OK {
			continue
		}
		read++
		own, e := wire.Encode(m)
		if again, e2 := wire.Decode(own); !wire.May(m) || e != api.OK || e2 != api.OK || !wire.Same(again, m) {
			t.Errorf("%q: %v", b, m)
		}
		for _, l := range [][]api.Record{m.Answers, m.Authority, m.Extra} {
			for _, x := range l {
				if x.Type == api.OPT || !rdata.May(x.Type, x.Data) {
					t.Errorf("%q: %v", b, x)
				}
			}
		}
	}
	if read < 300 {
		t.Error("too few were read", read)
	}
}

func TestP7_1ArgumentsUnchanged(t *testing.T) {
	l := make([]api.Record, 1, 4)
	l[0] = a(ex, "1234", 1)
	q := make([]api.Question, 1, 4)
	q[0] = exA()
	m := api.Msg{Questions: q, Answers: l, Extra: l, HasEdns: true}
	wire.Encode(m)
	if l[:4][1] != (api.Record{}) || q[:4][1] != (api.Question{}) || l[0] != a(ex, "1234", 1) {
		t.Error("changed")
	}
}
