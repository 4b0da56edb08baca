package intake_test

import (
	"math"
	"math/rand"
	"slices"
	"strings"
	"testing"

	"hustings/api"
	"hustings/intake"
	"hustings/name"
	"hustings/wire"
)

const (
	ex    = "\x02ex\x00"
	query = "\x00\x07\x01\x00\x00\x01\x00\x00\x00\x00\x00\x00\x02ex\x00\x00\x01\x00\x01"
)

func encode(t *testing.T, m api.Msg) string {
	t.Helper()
	s, e := wire.Encode(m)
	if e != api.OK {
		t.Fatal(m, e)
	}
	return s
}

func ask(kind, class uint16) api.Msg {
	return api.Msg{Head: api.Head{ID: 7}, Questions: []api.Question{{Name: "\x02Ex\x00", Type: kind, Class: class}}}
}

func look(t *testing.T, data string, want intake.Came) {
	t.Helper()
	if got := intake.Look(data); got != want {
		t.Errorf("%q: %v, not %v", data, got, want)
	}
}

func TestP25_1Dropped(t *testing.T) {
	if intake.Drop != 1 || intake.Tell != 2 || intake.Asks != 3 {
		t.Error("kinds")
	}
	drop := intake.Came{Kind: intake.Drop}
	for n := range 12 {
		look(t, query[:n], drop)
		look(t, strings.Repeat("\x00", n), drop)
		look(t, strings.Repeat("\xFF", n), drop)
	}
	// Replies, whatever else they are.
	for _, flags := range []string{"\x80\x00", "\xFF\xFF", "\x90\x00"} {
		look(t, "\x00\x07"+flags+query[4:], drop)
		look(t, "\x00\x07"+flags+strings.Repeat("\xFF", 30), drop)
	}
	look(t, encode(t, api.Msg{Head: api.Head{QR: true}}), drop)
}

func TestP25_1NotImp(t *testing.T) {
	for op := uint8(1); op < 16; op++ {
		want := intake.Came{Kind: intake.Tell, Code: 4, Head: api.Head{ID: 7, Op: op, RD: true, CD: true}}
		m := ask(api.A, api.IN)
		m.Op, m.RD, m.CD, m.AA, m.TC, m.RA, m.Z, m.AD, m.Code = op, true, true, true, true, true, true, true, 9
		m.HasEdns, m.Edns.Size = true, 900
		s := encode(t, m)
		look(t, s, want)
		look(t, s[:12], want) // nothing after the header is read
		look(t, s[:12]+"\xFF\xFF\xFF", want)
	}
}

func TestP25_1FormErr(t *testing.T) {
	form := intake.Came{Kind: intake.Tell, Code: 1}
	look(t, strings.Repeat("\x00", 12), form)
	form.Head = api.Head{ID: 7, RD: true}
	look(t, query+"\x00", form)
	look(t, query[:len(query)-1], form)
	look(t, query+strings.Repeat("\x00", 70000), form)
	look(t, "\x00\x07\x01\x00\x00\x01\x00\x00\x00\x00\x00\x00\xC0\x0C\x00\x01\x00\x01", form)
	// A message without exactly one question may have EDNS.
	for _, q := range [][]api.Question{nil, {{Name: ex, Type: 1, Class: 1}, {Name: ex, Type: 1, Class: 1}}} {
		m := api.Msg{Head: api.Head{ID: 9, CD: true}, Questions: q}
		look(t, encode(t, m), intake.Came{Kind: intake.Tell, Code: 1, Head: api.Head{ID: 9, CD: true}})
		m.HasEdns, m.Edns = true, api.Edns{Size: 900, Version: 3}
		look(t, encode(t, m), intake.Came{Kind: intake.Tell, Code: 1, Head: api.Head{ID: 9, CD: true}, HasEdns: true, Size: 900})
	}
}

func TestP25_1RefusedAndAsks(t *testing.T) {
	for kind := range 1 << 16 {
		if kind > 300 && kind%997 != 0 && kind < 65530 {
			continue
		}
		want := intake.Came{Kind: intake.Asks, Head: api.Head{ID: 7}, HasQuestion: true, Question: ask(uint16(kind), api.IN).Questions[0]}
		if kind == 0 || kind == 41 || kind >= 249 && kind <= 255 {
			want.Kind, want.Code = intake.Tell, 5
		}
		look(t, encode(t, ask(uint16(kind), api.IN)), want)
	}
	for _, class := range []uint16{0, 2, 3, 255, 256, 65535} {
		q := ask(api.A, class)
		look(t, encode(t, q), intake.Came{Kind: intake.Tell, Code: 5, Head: api.Head{ID: 7}, HasQuestion: true, Question: q.Questions[0]})
	}
	m := ask(api.A, api.IN)
	m.RD, m.HasEdns, m.Edns.Size = true, true, 4000
	want := intake.Came{Kind: intake.Asks, Head: api.Head{ID: 7, RD: true}, HasQuestion: true, Question: m.Questions[0], HasEdns: true, Size: 4000}
	look(t, encode(t, m), want)
	m.Edns.Ext, m.Edns.Flags, m.Edns.Options = 5, 0x8000, []api.Option{{Code: 1}}
	look(t, encode(t, m), want)
	// BadVers comes before Refused.
	for _, kind := range []uint16{api.A, 255} {
		m.Questions[0].Type, m.Edns.Version = kind, 1
		look(t, encode(t, m), intake.Came{Kind: intake.Tell, Code: 16, Head: api.Head{ID: 7, RD: true}, HasQuestion: true, Question: m.Questions[0], HasEdns: true, Size: 4000})
	}
	m.Edns.Version = 0
	look(t, encode(t, m), intake.Came{Kind: intake.Tell, Code: 5, Head: api.Head{ID: 7, RD: true}, HasQuestion: true, Question: m.Questions[0], HasEdns: true, Size: 4000})
}

func TestP25_2Room(t *testing.T) {
	for _, x := range []struct {
		has        bool
		size, most int
		want       int
	}{
		{true, 4000, 1232, 1232}, {true, 100, 1232, 512}, {true, 1000, 1232, 1000}, {true, 1232, 1232, 1232}, {true, 1233, 1232, 1232}, {true, 513, 1232, 513}, {true, 512, 1232, 512},
		{false, 4000, 1232, 512}, {false, 0, 4096, 512}, {true, 4000, 100, 512}, {true, 4000, -1, 512}, {true, 4000, 512, 512}, {true, 0, 0, 512},
		{true, math.MaxInt, math.MaxInt, math.MaxInt}, {true, math.MinInt, math.MaxInt, 512}, {true, math.MaxInt, math.MinInt, 512}, {true, 65535, 4096, 4096},
	} {
		for _, kind := range []uint8{intake.Drop, intake.Tell, intake.Asks, 0} {
			if got := intake.Room(intake.Came{Kind: kind, HasEdns: x.has, Size: x.size}, x.most); got != x.want {
				t.Errorf("%v: %d", x, got)
			}
		}
	}
}

func TestP25_2Blank(t *testing.T) {
	q := api.Question{Name: "\x02Ex\x00", Type: 7, Class: 8}
	all := api.Head{ID: 9, QR: true, Op: 5, AA: true, TC: true, RD: true, RA: true, Z: true, AD: true, CD: true, Code: 6}
	for _, x := range []struct {
		c          intake.Came
		code, size int
		want       api.Msg
	}{
		{intake.Came{}, 0, 512, api.Msg{Head: api.Head{QR: true, RA: true}}},
		{intake.Came{Head: all, Question: q, Size: 5}, 2, 512, api.Msg{Head: api.Head{ID: 9, QR: true, Op: 5, RD: true, RA: true, CD: true, Code: 2}}},
		{intake.Came{Kind: intake.Asks, HasQuestion: true, Question: q}, 3, 512, api.Msg{Head: api.Head{QR: true, RA: true, Code: 3}, Questions: []api.Question{q}}},
		{intake.Came{HasEdns: true, Size: 9}, 16, 1232, api.Msg{Head: api.Head{QR: true, RA: true}, HasEdns: true, Edns: api.Edns{Size: 1232, Ext: 1}}},
		{intake.Came{HasEdns: true}, 0xABC, 65536 + 7, api.Msg{Head: api.Head{QR: true, RA: true, Code: 0xC}, HasEdns: true, Edns: api.Edns{Size: 7, Ext: 0xAB}}},
		{intake.Came{HasEdns: true}, 0x7ABC, -1, api.Msg{Head: api.Head{QR: true, RA: true, Code: 0xC}, HasEdns: true, Edns: api.Edns{Size: 65535, Ext: 0xAB}}},
		{intake.Came{HasEdns: true}, -1, 0, api.Msg{Head: api.Head{QR: true, RA: true, Code: 0xF}, HasEdns: true, Edns: api.Edns{Ext: 0xFF}}},
		{intake.Came{}, 0xABC, 512, api.Msg{Head: api.Head{QR: true, RA: true, Code: 0xC}}},
		{intake.Came{}, 4096, 512, api.Msg{Head: api.Head{QR: true, RA: true}}},
	} {
		if got := intake.Blank(x.c, x.code, x.size); !wire.Same(got, x.want) {
			t.Errorf("%v: %v", x, got)
		}
	}
}

func randomDatagram(r *rand.Rand) string {
	m := ask(api.A, api.IN)
	m.ID, m.RD, m.CD, m.AD, m.Code = uint16(r.Uint32()), r.Intn(2) == 0, r.Intn(2) == 0, r.Intn(2) == 0, uint8(r.Intn(16))
	m.Questions[0].Name = []string{"\x00", ex, "\x01A\x02eX\x00", strings.Repeat("\x01q", 127) + "\x00"}[r.Intn(4)]
	if r.Intn(3) == 0 {
		m.Answers = []api.Record{{Name: ex, Type: api.A, Class: 1, Data: "1234"}}
	}
	if r.Intn(2) == 0 {
		m.HasEdns, m.Edns = true, api.Edns{Size: uint16(r.Uint32()), Version: uint8(r.Intn(3) / 2)}
	}
	s, _ := wire.Encode(m)
	b := []byte(s)
	for range r.Intn(3) {
		b[r.Intn(len(b))] = byte(r.Intn(256))
	}
	if r.Intn(6) == 0 {
		b = b[:r.Intn(len(b))]
	}
	return string(b)
}

func TestP25_3and4Random(t *testing.T) {
	r := rand.New(rand.NewSource(25))
	seen := map[int]int{}
	for range 5000 {
		s := randomDatagram(r)
		c := intake.Look(s)
		switch c.Kind {
		case intake.Drop:
			if c != (intake.Came{Kind: intake.Drop}) || len(s) >= 12 && s[2] < 0x80 {
				t.Errorf("%q: %v", s, c)
			}
			continue
		case intake.Tell:
			seen[c.Code]++
			if !slices.Contains([]int{1, 4, 5, 16}, c.Code) {
				t.Errorf("%q: %v", s, c)
			}
		case intake.Asks:
			seen[0]++
			if c.Code != 0 || !c.HasQuestion || !name.May(c.Question.Name) || c.Question.Class != api.IN {
				t.Errorf("%q: %v", s, c)
			}
		default:
			t.Errorf("%q: %v", s, c)
		}
		if c.HasQuestion != (c.Kind == intake.Asks || c.Code == 5 || c.Code == 16) || !c.HasQuestion && c.Question != (api.Question{}) || !c.HasEdns && c.Size != 0 {
			t.Errorf("%q: %v", s, c)
		}
		// P25.4: the reply.
		for _, code := range []int{c.Code, 2, 15} {
			m := intake.Blank(c, code, 1232)
			out, e := wire.Encode(m)
			back, e2 := wire.Decode(out)
			if e != api.OK || e2 != api.OK || !wire.Same(back, m) || out[:2] != s[:2] || len(out) > intake.Room(c, 1232) {
				t.Errorf("%q: %v %v", s, c, m)
			}
			if c.HasQuestion && !slices.Equal(m.Questions, []api.Question{c.Question}) {
				t.Errorf("%q: %v", s, m)
			}
		}
	}
	for _, code := range []int{0, 1, 4, 5, 16} {
		if seen[code] < 20 {
			t.Error("too few", code, seen)
		}
	}
}

func TestP25_6QuestionAlone(t *testing.T) {
	r := rand.New(rand.NewSource(256))
	for range 500 {
		m := ask(api.A, api.IN)
		want := m.Questions[0]
		m.ID, m.AA, m.TC, m.RD, m.RA, m.Z, m.AD, m.CD, m.Code = uint16(r.Uint32()), r.Intn(2) == 0, r.Intn(2) == 0, r.Intn(2) == 0, r.Intn(2) == 0, r.Intn(2) == 0, r.Intn(2) == 0, r.Intn(2) == 0, uint8(r.Intn(16))
		for _, l := range []*[]api.Record{&m.Answers, &m.Authority, &m.Extra} {
			for range r.Intn(3) {
				*l = append(*l, api.Record{Name: ex, Type: uint16(r.Intn(2)) * 99, Class: uint16(r.Uint32()), Data: "1234"})
			}
		}
		c := intake.Look(encode(t, m))
		if c.Kind != intake.Asks || c.Question != want || c.Head != (api.Head{ID: m.ID, RD: m.RD, CD: m.CD}) {
			t.Errorf("%v: %v", m, c)
		}
	}
}

func TestP25_7SizeLimit(t *testing.T) {
	last := 0
	for size := range 5000 {
		got := intake.Room(intake.Came{HasEdns: true, Size: size}, 2000)
		if got < 512 || got > 2000 || got < last {
			t.Error(size, got)
		}
		last = got
	}
}
