package answer_test

import (
	"fmt"
	"math"
	"math/rand"
	"strings"
	"testing"

	"hustings/answer"
	"hustings/api"
	"hustings/heard"
	"hustings/intake"
	"hustings/verdict"
	"hustings/wire"
)

const (
	ex       = "\x02ex\x00"
	query    = "\x00\x07\x01\x00\x00\x01\x00\x00\x00\x00\x00\x00\x02ex\x00\x00\x01\x00\x01"
	question = "\x02ex\x00\x00\x01\x00\x01"
	cut      = "\x00\x07\x83\x80\x00\x01\x00\x00\x00\x00\x00\x00" + question
)

func addresses(n int) api.Verdict {
	s := api.Set{Name: ex, Type: api.A, Class: api.IN, TTL: 99}
	for i := range n {
		s.Data = append(s.Data, string([]byte{10, 0, byte((i + 1) >> 8), byte(i + 1)}))
	}
	return api.Verdict{Sets: []api.Set{s}}
}

func encode(t *testing.T, m api.Msg) string {
	t.Helper()
	s, e := wire.Encode(m)
	if e != api.OK {
		t.Fatal(m, e)
	}
	return s
}

// withEdns is the query with EDNS of a size.
func withEdns(t *testing.T, size uint16) intake.Came {
	t.Helper()
	m, _ := wire.Decode(query)
	m.HasEdns, m.Edns.Size = true, size
	return intake.Look(encode(t, m))
}

func TestP28_1Code(t *testing.T) {
	c := intake.Look(query)
	if got := answer.Code(c, 2, 1232); got != "\x00\x07\x81\x82\x00\x01\x00\x00\x00\x00\x00\x00"+question {
		t.Errorf("%q", got)
	}
	if got := answer.Code(withEdns(t, 4000), 16, 1232); got != "\x00\x07\x81\x80\x00\x01\x00\x00\x00\x00\x00\x01"+question+"\x00\x00\x29\x04\xD0\x01\x00\x00\x00\x00\x00" {
		t.Errorf("%q", got)
	}
	if got := answer.Code(withEdns(t, 1), 4095, 4096); got != "\x00\x07\x81\x8F\x00\x01\x00\x00\x00\x00\x00\x01"+question+"\x00\x00\x29\x10\x00\xFF\x00\x00\x00\x00\x00" {
		t.Errorf("%q", got)
	}
	form := intake.Look(strings.Repeat("\x00", 12))
	if got := answer.Code(form, form.Code, 512); got != "\x00\x00\x80\x81\x00\x00\x00\x00\x00\x00\x00\x00" {
		t.Errorf("%q", got)
	}
}

func TestP28_1NoReply(t *testing.T) {
	asks, edns := intake.Look(query), withEdns(t, 4000)
	for code, want := range map[int][2]bool{0: {true, true}, 15: {true, true}, 16: {false, true}, 4095: {false, true}, 4096: {false, false}, -1: {false, false}, math.MaxInt: {false, false}, math.MinInt: {false, false}} {
		if got := answer.Code(asks, code, 1232); (got != "") != want[0] {
			t.Errorf("%d: %q", code, got)
		}
		if got := answer.Code(edns, code, 1232); (got != "") != want[1] {
			t.Errorf("%d: %q", code, got)
		}
	}
	for size, want := range map[int]bool{512: true, 4096: true, 511: false, 4097: false, 0: false, -1: false, math.MaxInt: false, math.MinInt: false} {
		if (answer.Code(asks, 2, size) != "") != want || (answer.Of(asks, addresses(1), 5, size) != "") != want {
			t.Error(size)
		}
	}
	for _, kind := range []uint8{0, intake.Drop, 4, 255} {
		c := asks
		c.Kind = kind
		if answer.Code(c, 2, 1232) != "" || answer.Of(c, addresses(1), 5, 1232) != "" {
			t.Error("kind", kind)
		}
	}
	bad := asks
	bad.Question.Name = "bad"
	op := asks
	op.Head.Op = 16
	for _, c := range []intake.Came{bad, op} {
		if answer.Code(c, 2, 1232) != "" || answer.Of(c, addresses(1), 5, 1232) != "" || answer.Of(c, addresses(400), 5, 1232) != "" {
			t.Error(c)
		}
	}
	tell := asks
	tell.Kind = intake.Tell
	if answer.Code(tell, 5, 1232) == "" || answer.Of(tell, addresses(1), 5, 1232) != "" {
		t.Error("tell")
	}
}

func TestP28_2Of(t *testing.T) {
	c := intake.Look(query)
	if got := answer.Of(c, addresses(1), 5, 1232); got != "\x00\x07\x81\x80\x00\x01\x00\x01\x00\x00\x00\x00"+question+"\xC0\x0C\x00\x01\x00\x01\x00\x00\x00\x05\x00\x04\x0A\x00\x00\x01" {
		t.Errorf("%q", got)
	}
	for n, want := range map[int]int{30: 500, 31: len(cut), 40: len(cut)} {
		got := answer.Of(c, addresses(n), 5, 1232)
		if len(got) != want || want == len(cut) && got != cut {
			t.Errorf("%d: %d bytes", n, len(got))
		}
	}
	edns := withEdns(t, 4096)
	for n, want := range map[int]int{75: 1231, 76: len(cut) + 11} {
		if got := answer.Of(edns, addresses(n), 5, 1232); len(got) != want {
			t.Errorf("%d: %d bytes", n, len(got))
		}
	}
	if got := answer.Of(edns, addresses(76), 5, 1232); got != cut[:11]+"\x01"+question+"\x00\x00\x29\x04\xD0\x00\x00\x00\x00\x00\x00" {
		t.Errorf("%q", got)
	}
	if got := answer.Of(c, api.Verdict{Code: 3}, 0, 1232); got != "\x00\x07\x81\x83\x00\x01\x00\x00\x00\x00\x00\x00"+question {
		t.Errorf("%q", got)
	}
	v := api.Verdict{Code: 3, Soa: []api.Set{{Name: "\x00", Type: 99, Class: 1, Data: []string{"b", "a"}}}, Sets: []api.Set{{Name: ex, Type: 98, Class: 3, Data: []string{"y", "x"}}, {Name: "\x01w" + ex, Type: 97, Class: 1, Data: []string{""}}}}
	want := "\x00\x07\x81\x83\x00\x01\x00\x03\x00\x02\x00\x00" + question +
		"\xC0\x0C\x00\x62\x00\x03\x7F\xFF\xFF\xFF\x00\x01y" + "\xC0\x0C\x00\x62\x00\x03\x7F\xFF\xFF\xFF\x00\x01x" + "\x01w\xC0\x0C\x00\x61\x00\x01\x7F\xFF\xFF\xFF\x00\x00" +
		"\x00\x00\x63\x00\x01\x7F\xFF\xFF\xFF\x00\x01b" + "\x00\x00\x63\x00\x01\x7F\xFF\xFF\xFF\x00\x01a"
	if got := answer.Of(c, v, math.MaxInt32, 1232); got != want {
		t.Errorf("%q", got)
	}
}

func TestP28_2NoReply(t *testing.T) {
	c := intake.Look(query)
	for _, code := range []uint8{1, 2, 4, 5, 15, 16, 19, 255} {
		v := addresses(1)
		v.Code = code
		if got := answer.Of(c, v, 5, 1232); got != "" {
			t.Errorf("%d: %q", code, got)
		}
	}
	if answer.Of(c, addresses(1), 1<<31, 1232) != "" || answer.Of(c, addresses(100), 1<<31, 1232) != "" {
		t.Error("ttl")
	}
	set := func(n string, kind uint16, data ...string) api.Verdict {
		return api.Verdict{Sets: []api.Set{{Name: n, Type: kind, Class: 1, Data: data}}}
	}
	many := make([]string, 65536)
	for _, v := range []api.Verdict{set("bad", 99, "x"), set(ex, api.A, "123"), set(ex, api.OPT, ""), set(ex, 99, many...), {Soa: set(ex, 99, many...).Sets}, {Soa: set(ex, api.SOA, "").Sets}} {
		if got := answer.Of(c, v, 5, 1232); got != "" {
			t.Errorf("%q", got)
		}
	}
	// What is too long is cut.
	for _, v := range []api.Verdict{set(ex, 99, many[1:]...), set(ex, 99, strings.Repeat("x", 65535)), set(ex, 99, strings.Repeat("x", 65536)), set(ex, 99, strings.Repeat("x", 70000)), set(ex, 99, strings.Repeat("x", 481)), {Soa: set(ex, 99, strings.Repeat("x", 70000)).Sets}} {
		if got := answer.Of(c, v, 5, 1232); got != cut {
			t.Errorf("%d bytes", len(got))
		}
	}
	if got := answer.Of(c, set(ex, 99, strings.Repeat("x", 480)), 5, 1232); len(got) != 512 {
		t.Errorf("%d bytes", len(got))
	}
	// A set without data has no record, whatever its name.
	if got := answer.Of(c, set("bad", api.OPT), 5, 1232); got != "\x00\x07\x81\x80\x00\x01\x00\x00\x00\x00\x00\x00"+question {
		t.Errorf("%q", got)
	}
}

func randomReply(r *rand.Rand, q api.Question) api.Msg {
	m := api.Msg{Head: api.Head{QR: true, Code: uint8(r.Intn(2) * 3)}, Questions: []api.Question{q}}
	at := q.Name
	for i := range r.Intn(4) {
		next := fmt.Sprintf("\x01%d\x02eX\x00", i)
		m.Answers = append(m.Answers, api.Record{Name: at, Type: api.CNAME, Class: 1, TTL: uint32(r.Intn(9)), Data: next})
		at = next
	}
	for i := range r.Intn(3) * r.Intn(60) {
		m.Answers = append(m.Answers, api.Record{Name: at, Type: api.A, Class: 1, TTL: uint32(r.Intn(9)), Data: string([]byte{1, 2, 3, byte(i)})})
	}
	if r.Intn(2) == 0 {
		m.Authority = []api.Record{{Name: ex, Type: api.SOA, Class: 1, TTL: 5, Data: "\x00\x02EX\x00" + strings.Repeat("\x01", 20)}}
	}
	return m
}

func TestP28_3to7Random(t *testing.T) {
	r := rand.New(rand.NewSource(28))
	seen := map[string]int{}
	for range 1500 {
		q := api.Question{Name: []string{"\x03wWw\x02eX\x00", ex}[r.Intn(2)], Type: api.A, Class: api.IN}
		ask := api.Msg{Head: api.Head{ID: uint16(r.Uint32()), RD: r.Intn(2) == 0, CD: r.Intn(2) == 0}, Questions: []api.Question{q}}
		if r.Intn(2) == 0 {
			ask.HasEdns, ask.Edns.Size = true, uint16(r.Intn(5000))
		}
		c := intake.Look(encode(t, ask))
		low := api.Question{Name: strings.ToLower(q.Name), Type: q.Type, Class: q.Class}
		reply := heard.Look(low, encode(t, randomReply(r, q)))
		if reply.Kind != heard.Vote {
			continue
		}
		ttl, size := uint32(r.Intn(1<<31)), 512+r.Intn(3585)
		s := answer.Of(c, reply.Verdict, ttl, size)
		m, e := wire.Decode(s)
		if e != api.OK || len(s) > intake.Room(c, size) || m.ID != ask.ID || m.RD != ask.RD || m.CD != ask.CD || !m.QR || !m.RA || len(m.Questions) != 1 || m.Questions[0] != q || m.HasEdns != ask.HasEdns {
			t.Fatalf("%q: %v %v", s, m, e)
		}
		v, time, e := verdict.Of(low, m)
		_, has := verdict.End(low, reply.Verdict)
		switch {
		case m.TC:
			seen["cut"]++
			if len(m.Answers)+len(m.Authority)+len(m.Extra) > 0 {
				t.Error("records beside TC")
			}
		case e != api.OK || !verdict.Same(v, reply.Verdict) || time > ttl || has && time != ttl:
			t.Errorf("%v: %v %d %v", reply, v, time, e)
		default:
			seen["whole"]++
		}
		checkSizes(t, c, reply.Verdict, ttl, size, m)
		// P28.6: another TTL changes the TTLs and nothing else.
		other, _ := wire.Decode(answer.Of(c, reply.Verdict, ttl/2, size))
		for _, l := range [][]api.Record{other.Answers, other.Authority} {
			for i := range l {
				if l[i].TTL != ttl/2 {
					t.Error("ttl", l[i])
				}
				l[i].TTL = ttl
			}
		}
		if !wire.Same(other, m) {
			t.Errorf("%v %v", m, other)
		}
	}
	if seen["cut"] < 50 || seen["whole"] < 50 {
		t.Error(seen)
	}
}

// checkSizes is P28.5: TC if and only if the whole does not fit, and nothing but the Size of EDNS changes with more room.
func checkSizes(t *testing.T, c intake.Came, v api.Verdict, ttl uint32, size int, m api.Msg) {
	t.Helper()
	whole := c
	whole.HasEdns = true
	whole.Size = 4096
	all, _ := wire.Decode(answer.Of(whole, v, ttl, 4096))
	if all.TC {
		return
	}
	all.HasEdns, all.Edns = m.HasEdns, m.Edns
	n, _ := wire.Size(all)
	if m.TC != (n > intake.Room(c, size)) || !m.TC && !wire.Same(all, m) {
		t.Errorf("%d bytes in %d: %v", n, intake.Room(c, size), m)
	}
	i := 0
	for _, s := range v.Sets {
		for _, d := range s.Data {
			if all.Answers[i] != (api.Record{Name: s.Name, Type: s.Type, Class: s.Class, TTL: ttl, Data: d}) {
				t.Error(all.Answers[i])
			}
			i++
		}
	}
	if i != len(all.Answers) || (len(v.Soa) == 0) != (len(all.Authority) == 0) {
		t.Error(all)
	}
}

func TestP28_4Codes(t *testing.T) {
	long := api.Msg{Questions: []api.Question{{Name: strings.Repeat("\x01a", 127) + "\x00", Type: api.A, Class: api.IN}}, HasEdns: true}
	for _, s := range []string{query, strings.Repeat("\x00", 12), "\x00\x07\x29" + query[3:], encode(t, long), query[:18] + "\x00\xFF" + query[20:]} {
		c := intake.Look(s)
		for code := range 17 {
			if code == 16 && !c.HasEdns {
				continue
			}
			got := answer.Code(c, code, 512)
			m, e := wire.Decode(got)
			if e != api.OK || got[:2] != s[:2] || int(m.Code)+int(m.Edns.Ext)*16 != code || len(got) > 512 || !m.QR || !m.RA || m.TC || (len(m.Questions) == 1) != c.HasQuestion {
				t.Errorf("%q %d: %q", s, code, got)
			}
		}
	}
}
