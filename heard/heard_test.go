package heard_test

import (
	"math"
	"math/rand"
	"slices"
	"strings"
	"testing"

	"hustings/api"
	"hustings/heard"
	"hustings/verdict"
	"hustings/wire"
)

const (
	ex    = "\x02ex\x00"
	query = "\x00\x07\x01\x00\x00\x01\x00\x00\x00\x00\x00\x01\x02ex\x00\x00\x01\x00\x01\x00\x00\x29\x04\xD0\x00\x00\x00\x00\x00\x00"
)

func exA() api.Question { return api.Question{Name: ex, Type: api.A, Class: api.IN} }

func flags(s string) string { return query[:2] + s + query[4:] }

// kind checks what bytes are, and that nothing but a vote says more.
func kind(t *testing.T, q api.Question, data string, want uint8) {
	t.Helper()
	r := heard.Look(q, data)
	if r.Kind != want || want != heard.Vote && (r.Time != 0 || !verdict.Same(r.Verdict, api.Verdict{})) {
		t.Errorf("%q: %v, not %d", data, r, want)
	}
}

func encode(t *testing.T, m api.Msg) string {
	t.Helper()
	s, e := wire.Encode(m)
	if e != api.OK {
		t.Fatal(m, e)
	}
	return s
}

func reply() api.Msg {
	return api.Msg{Head: api.Head{QR: true}, Questions: []api.Question{exA()}}
}

func a(n string, last byte, ttl uint32) api.Record {
	return api.Record{Name: n, Type: api.A, Class: api.IN, TTL: ttl, Data: "\x0A\x00\x00" + string([]byte{last})}
}

func TestP24_1Query(t *testing.T) {
	for _, n := range []string{ex, "\x02EX\x00"} {
		q := exA()
		q.Name = n
		if s, e := heard.Query(q, 7, 1232); s != query || e != api.OK {
			t.Errorf("%q %v", s, e)
		}
	}
	q := api.Question{Name: "\x01A\x02ex\x00", Type: 0x0102, Class: 0x0304}
	for size, want := range map[int]string{0: "\x00\x00", 65535: "\xFF\xFF", 512: "\x02\x00"} {
		if s, e := heard.Query(q, 0xFEDC, size); s != "\xFE\xDC\x01\x00\x00\x01\x00\x00\x00\x00\x00\x01\x01a\x02ex\x00\x01\x02\x03\x04\x00\x00\x29"+want+"\x00\x00\x00\x00\x00\x00" || e != api.OK {
			t.Errorf("%q %v", s, e)
		}
	}
	for _, size := range []int{-1, 65536, math.MinInt, math.MaxInt} {
		if s, e := heard.Query(exA(), 7, size); s != "" || e != api.ErrArg {
			t.Errorf("%q %v", s, e)
		}
	}
	for _, n := range []string{"", "ex", "\x02ex"} {
		if s, e := heard.Query(api.Question{Name: n}, 7, 1232); s != "" || e != api.ErrArg {
			t.Errorf("%q %v", s, e)
		}
	}
}

func TestP24_2Examples(t *testing.T) {
	if heard.Bad != 1 || heard.Pass != 2 || heard.Vote != 3 {
		t.Error("kinds")
	}
	kind(t, exA(), flags("\x81\x00"), heard.Vote)
	kind(t, exA(), flags("\x83\x00"), heard.Pass)
	kind(t, exA(), flags("\x81\x02"), heard.Pass)
	kind(t, exA(), flags("\x01\x00"), heard.Bad)
	if r := heard.Look(exA(), flags("\x81\x00")); r.Time != 0 || !verdict.Same(r.Verdict, api.Verdict{}) {
		t.Error(r)
	}
}

func TestP24_2Order(t *testing.T) {
	for want, l := range map[uint8][]func(m *api.Msg){
		heard.Vote: {
			func(m *api.Msg) {}, func(m *api.Msg) { m.Code = 3 }, func(m *api.Msg) { m.Questions[0].Name = "\x02eX\x00" },
			func(m *api.Msg) { m.Answers = []api.Record{a(ex, 1, 9)} }, func(m *api.Msg) { m.HasEdns, m.Edns.Version = true, 7 },
		},
		heard.Pass: {
			func(m *api.Msg) { m.TC = true }, func(m *api.Msg) { m.Code = 2 }, func(m *api.Msg) { m.Code = 1 }, func(m *api.Msg) { m.Code = 5 }, func(m *api.Msg) { m.Code = 15 },
			func(m *api.Msg) { m.HasEdns, m.Edns.Ext = true, 1 }, func(m *api.Msg) { m.Code, m.HasEdns, m.Edns.Ext = 3, true, 16 },
			// A pass, though it has no verdict either.
			func(m *api.Msg) { m.TC, m.Code, m.Answers = true, 3, []api.Record{a(ex, 1, 9)} },
			func(m *api.Msg) {
				m.Code, m.Answers = 2, []api.Record{{Name: ex, Type: api.CNAME, Class: 1, Data: ex}}
			},
		},
		heard.Bad: {
			func(m *api.Msg) { m.QR = false }, func(m *api.Msg) { m.Op = 1 }, func(m *api.Msg) { m.Op = 15 }, func(m *api.Msg) { m.Questions = nil }, func(m *api.Msg) { m.Questions = append(m.Questions, exA()) },
			func(m *api.Msg) { m.Questions[0].Name = "\x02ey\x00" }, func(m *api.Msg) { m.Questions[0].Name = "\x00" }, func(m *api.Msg) { m.Questions[0].Type = 2 }, func(m *api.Msg) { m.Questions[0].Class = 2 },
			// Bad before it is a pass.
			func(m *api.Msg) { m.QR, m.TC = false, true }, func(m *api.Msg) { m.Op, m.Code = 1, 2 }, func(m *api.Msg) { m.Questions, m.TC = nil, true }, func(m *api.Msg) { m.Questions[0].Type, m.Code = 2, 2 },
			// No verdict.
			func(m *api.Msg) { m.Code, m.Answers = 3, []api.Record{a(ex, 1, 9)} },
			func(m *api.Msg) { m.Answers = []api.Record{{Name: ex, Type: api.CNAME, Class: 1, Data: ex}} },
		},
	} {
		for i, change := range l {
			m := reply()
			change(&m)
			if got := heard.Look(exA(), encode(t, m)).Kind; got != want {
				t.Errorf("%d of %d: %d", i, want, got)
			}
		}
	}
}

func TestP24_2NoMessage(t *testing.T) {
	for _, s := range []string{"", "\x00", query[:11], strings.Repeat("\x00", 12), strings.Repeat("\xFF", 40)} {
		kind(t, exA(), s, heard.Bad)
	}
	for _, n := range []string{"", "ex", "\x02ex"} {
		kind(t, api.Question{Name: n, Type: api.A, Class: api.IN}, flags("\x81\x00"), heard.Bad)
		kind(t, api.Question{Name: n, Type: api.A, Class: api.IN}, flags("\x83\x00"), heard.Bad)
	}
}

func TestP24_2Votes(t *testing.T) {
	m := reply()
	m.Answers = []api.Record{a(ex, 2, 9), a(ex, 1, 5)}
	want := api.Verdict{Sets: []api.Set{{Name: ex, Type: api.A, Class: api.IN, Data: []string{"\x0A\x00\x00\x01", "\x0A\x00\x00\x02"}}}}
	if r := heard.Look(exA(), encode(t, m)); r.Kind != heard.Vote || r.Time != 5 || !verdict.Same(r.Verdict, want) {
		t.Error(r)
	}
	m = reply()
	m.Code = 3
	m.Authority = []api.Record{{Name: "\x00", Type: api.SOA, Class: api.IN, TTL: 9, Data: "\x00\x00" + strings.Repeat("\x00", 19) + "\x04"}}
	if r := heard.Look(exA(), encode(t, m)); r.Kind != heard.Vote || r.Time != 4 || r.Verdict.Code != 3 || len(r.Verdict.Soa) != 1 {
		t.Error(r)
	}
}

func randomReply(r *rand.Rand) api.Msg {
	m := reply()
	m.Code = uint8(r.Intn(5))
	if r.Intn(8) == 0 {
		m.TC = true
	}
	names := []string{ex, "\x02Ex\x00", "\x01a\x00", "\x01b\x00"}
	for range r.Intn(5) {
		n := names[r.Intn(len(names))]
		if r.Intn(3) == 0 {
			m.Answers = append(m.Answers, api.Record{Name: n, Type: api.CNAME, Class: 1, TTL: 7, Data: names[r.Intn(len(names))]})
		} else {
			m.Answers = append(m.Answers, a(n, byte(r.Intn(3)), uint32(r.Intn(9))))
		}
	}
	for range r.Intn(3) {
		m.Authority = append(m.Authority, api.Record{Name: "\x00", Type: api.SOA, Class: 1, TTL: 9, Data: "\x00\x00" + strings.Repeat("\x00", 19) + string([]byte{byte(r.Intn(2))})})
	}
	return m
}

func TestP24_4to7Random(t *testing.T) {
	r := rand.New(rand.NewSource(24))
	seen := map[uint8]int{}
	same := func(a, b heard.Reply) bool {
		return a.Kind == b.Kind && a.Time == b.Time && verdict.Same(a.Verdict, b.Verdict)
	}
	for range 3000 {
		m := randomReply(r)
		s := encode(t, m)
		got := heard.Look(exA(), s)
		seen[got.Kind]++
		// P24.4: a vote if and only if there is a verdict.
		v, time, e := verdict.Of(exA(), m)
		want := heard.Reply{Kind: heard.Bad}
		switch {
		case m.TC || m.Code != 0 && m.Code != 3:
			want.Kind = heard.Pass
		case e == api.OK:
			want = heard.Reply{Kind: heard.Vote, Verdict: v, Time: time}
		}
		if !same(got, want) {
			t.Errorf("%v: %v, not %v", m, got, want)
		}
		// P24.5 and P24.7: what does not matter, and the order of records.
		o := m
		o.ID, o.AA, o.RD, o.RA, o.Z, o.AD, o.CD = uint16(r.Uint32()), r.Intn(2) == 0, r.Intn(2) == 0, r.Intn(2) == 0, r.Intn(2) == 0, r.Intn(2) == 0, r.Intn(2) == 0
		o.Extra = []api.Record{a(ex, 77, 1), {Name: ex, Type: api.CNAME, Class: 1, Data: "\x00"}}
		o.HasEdns = r.Intn(2) == 0
		if o.HasEdns {
			o.Edns = api.Edns{Size: uint16(r.Uint32()), Version: uint8(r.Uint32()), Flags: uint16(r.Uint32()), Options: []api.Option{{Code: 3, Data: "x"}}}
		}
		o.Questions = []api.Question{{Name: "\x02EX\x00", Type: api.A, Class: api.IN}}
		o.Answers, o.Authority = slices.Clone(m.Answers), slices.Clone(m.Authority)
		r.Shuffle(len(o.Answers), func(i, j int) { o.Answers[i], o.Answers[j] = o.Answers[j], o.Answers[i] })
		slices.Reverse(o.Authority)
		q := exA()
		q.Name = "\x02eX\x00"
		if other := heard.Look(q, encode(t, o)); !same(got, other) {
			t.Errorf("%v: %v, not %v", o, other, got)
		}
		// P24.6: truncation.
		kind(t, exA(), s[:r.Intn(len(s))], heard.Bad)
		kind(t, exA(), s+"\x00", heard.Bad)
	}
	if seen[heard.Bad] < 100 || seen[heard.Pass] < 100 || seen[heard.Vote] < 100 {
		t.Error(seen)
	}
}

func TestP24_3Queries(t *testing.T) {
	r := rand.New(rand.NewSource(243))
	for range 200 {
		q := api.Question{Name: []string{"\x00", "\x02EX\x00", "\x01a\x02ex\x00", strings.Repeat("\x01Z", 127) + "\x00"}[r.Intn(4)], Type: uint16(r.Uint32()), Class: uint16(r.Uint32())}
		id, size := uint16(r.Uint32()), r.Intn(65536)
		s, e := heard.Query(q, id, size)
		m, e2 := wire.Decode(s)
		low := q
		low.Name = strings.ToLower(q.Name)
		want := api.Msg{Head: api.Head{ID: id, RD: true}, Questions: []api.Question{low}, HasEdns: true, Edns: api.Edns{Size: uint16(size)}}
		if e != api.OK || e2 != api.OK || !wire.Same(m, want) {
			t.Errorf("%v: %v", q, m)
		}
		if q.Type == api.OPT {
			continue
		}
		m.QR = true
		if got := heard.Look(q, encode(t, m)); got.Kind != heard.Vote || got.Time != 0 || !verdict.Same(got.Verdict, api.Verdict{}) {
			t.Error(got)
		}
	}
}
