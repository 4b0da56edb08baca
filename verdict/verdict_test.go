package verdict_test

import (
	"math/rand"
	"slices"
	"strings"
	"testing"

	"hustings/api"
	"hustings/name"
	"hustings/rrset"
	"hustings/verdict"
)

func n(s string) string {
	x, e := name.Parse(s)
	if e != api.OK {
		panic(s)
	}
	return x
}

func cname(from, to string, ttl uint32) api.Record {
	return api.Record{Name: n(from), Type: api.CNAME, Class: api.IN, TTL: ttl, Data: n(to)}
}

func a(at string, last byte, ttl uint32) api.Record {
	return api.Record{Name: n(at), Type: api.A, Class: api.IN, TTL: ttl, Data: "\x0A\x00\x00" + string([]byte{last})}
}

func soa(at string, ttl uint32, last byte) api.Record {
	return api.Record{Name: n(at), Type: api.SOA, Class: api.IN, TTL: ttl, Data: "\x00\x00" + strings.Repeat("\x00", 19) + string([]byte{last})}
}

func ask(s string, kind uint16) api.Question {
	return api.Question{Name: n(s), Type: kind, Class: api.IN}
}

func msg(code uint8, answers []api.Record, authority ...api.Record) api.Msg {
	return api.Msg{Head: api.Head{Code: code}, Answers: answers, Authority: authority}
}

func set(s api.Set) api.Set {
	s.TTL = 0
	return s
}

func TestP11_1Examples(t *testing.T) {
	www := []api.Record{cname("www.ex.", "a.ex.", 9), a("a.ex.", 1, 5)}
	v, time, e := verdict.Of(ask("www.ex.", api.A), msg(0, www))
	groups := rrset.Group(www)
	want := api.Verdict{Sets: []api.Set{set(groups[1]), set(groups[0])}}
	if !verdict.Same(v, want) || time != 5 || e != api.OK {
		t.Error(v, time, e)
	}
	v, time, e = verdict.Of(ask("a.ex.", api.A), msg(3, nil, soa("ex.", 9, 3)))
	want = api.Verdict{Code: 3, Soa: []api.Set{set(rrset.Group([]api.Record{soa("ex.", 0, 3)})[0])}}
	if !verdict.Same(v, want) || time != 3 || e != api.OK {
		t.Error(v, time, e)
	}
	v, time, e = verdict.Of(ask("a.ex.", api.A), msg(3, nil))
	if !verdict.Same(v, api.Verdict{Code: 3}) || time != 0 || e != api.OK {
		t.Error(v, time, e)
	}
}

func TestP11_1Times(t *testing.T) {
	q := ask("www.ex.", api.A)
	for i, c := range []struct {
		m         api.Msg
		sets, soa int
		time      uint32
	}{
		{msg(0, []api.Record{cname("www.ex.", "a.ex.", 4), a("a.ex.", 1, 5)}), 2, 0, 4},
		{msg(0, []api.Record{a("www.ex.", 1, 5), a("www.ex.", 2, 3)}), 1, 0, 3},
		{msg(0, []api.Record{a("www.ex.", 1, 5), a("x.ex.", 2, 3)}, soa("ex.", 1, 1)), 1, 0, 5},
		{msg(0, []api.Record{a("www.ex.", 1, 1<<31)}), 1, 0, 0},
		{msg(0, []api.Record{a("www.ex.", 1, 1<<31-1)}), 1, 0, 1<<31 - 1},
		{msg(0, []api.Record{cname("www.ex.", "a.ex.", 4)}), 1, 0, 0},
		{msg(0, []api.Record{cname("www.ex.", "a.ex.", 4)}, soa("ex.", 9, 8)), 1, 1, 4},
		{msg(0, []api.Record{cname("www.ex.", "a.ex.", 9)}, soa("ex.", 7, 8)), 1, 1, 7},
		{msg(3, []api.Record{cname("www.ex.", "a.ex.", 9)}, soa("ex.", 9, 2)), 1, 1, 2},
		{msg(0, []api.Record{cname("www.ex.", "a.com.", 9)}, soa("ex.", 9, 2)), 1, 0, 0},
		{msg(0, nil, soa("ex.", 9, 2), soa(".", 1, 1)), 0, 1, 2},
		{msg(0, nil), 0, 0, 0},
		{msg(0, []api.Record{soa("ex.", 9, 9)}), 0, 0, 0},
	} {
		v, time, e := verdict.Of(q, c.m)
		if len(v.Sets) != c.sets || len(v.Soa) != c.soa || time != c.time || e != api.OK || v.Code != c.m.Code {
			t.Errorf("%d: %v %d %v", i, v, time, e)
		}
	}
}

func TestP11_1Errors(t *testing.T) {
	q := ask("a.", api.A)
	two := []api.Record{soa("a.", 9, 1), soa("a.", 9, 2)}
	loop := []api.Record{cname("a.", "a.", 1)}
	var long []api.Record
	for i := range 9 {
		long = append(long, cname(string([]byte{'a' + byte(i)})+".", string([]byte{'b' + byte(i)})+".", 1))
	}
	for i, c := range []struct {
		q api.Question
		m api.Msg
		e api.Errno
	}{
		{q, msg(2, nil), api.ErrArg}, {q, msg(1, nil), api.ErrArg}, {q, msg(4, loop), api.ErrArg}, {q, msg(15, nil), api.ErrArg}, {q, msg(16, nil), api.ErrArg},
		{api.Question{Name: "bad"}, msg(0, nil), api.ErrArg}, {api.Question{}, msg(0, nil), api.ErrArg},
		{q, msg(0, loop), api.ErrLoop}, {q, msg(3, loop, two...), api.ErrLoop}, {q, msg(0, long), api.ErrLong},
		{q, msg(0, []api.Record{cname("a.", "b.", 1), a("a.", 1, 1)}), api.ErrForm},
		{q, msg(3, []api.Record{a("a.", 1, 1)}), api.ErrForm}, {q, msg(3, []api.Record{cname("a.", "b.", 1), a("b.", 1, 1)}, two...), api.ErrForm},
		{q, msg(0, nil, two...), api.ErrForm}, {q, msg(3, nil, two...), api.ErrForm},
	} {
		v, time, e := verdict.Of(c.q, c.m)
		if e != c.e || time != 0 || !verdict.Same(v, api.Verdict{}) {
			t.Errorf("%d: %v %d %v, not %v", i, v, time, e, c.e)
		}
	}
	// With an end the SOA sets do not matter.
	if v, time, e := verdict.Of(q, msg(0, []api.Record{a("a.", 1, 7)}, two...)); len(v.Soa) != 0 || time != 7 || e != api.OK {
		t.Error(v, time, e)
	}
}

func TestP11_1OnlySections(t *testing.T) {
	m := msg(0, []api.Record{a("a.", 1, 7)})
	want, _, _ := verdict.Of(ask("A.", api.A), m)
	m.Head = api.Head{ID: 3, QR: true, Op: 5, AA: true, TC: true, RD: true}
	m.Questions = []api.Question{ask("x.", api.NS)}
	m.Extra = []api.Record{a("a.", 2, 1), cname("a.", "b.", 1)}
	m.HasEdns, m.Edns = true, api.Edns{Ext: 1}
	if v, time, e := verdict.Of(ask("A.", api.A), m); !verdict.Same(v, want) || time != 7 || e != api.OK {
		t.Error(v, time, e)
	}
	// Answers are no authority, and authority is no answer.
	if v, _, _ := verdict.Of(ask("a.", api.A), msg(0, nil, a("a.", 1, 7))); len(v.Sets) != 0 {
		t.Error(v)
	}
}

func TestP11_2Key(t *testing.T) {
	for _, c := range []struct {
		v    api.Verdict
		want string
	}{
		{api.Verdict{Code: 3}, "\x03\x00\x00"},
		{api.Verdict{Sets: []api.Set{{Name: n("ex."), Type: 0x0102, Class: 0x0304, Data: []string{"a", "", "bcd"}}, {Name: n("."), TTL: 7}}},
			"\x00\x02\x02ex\x00\x01\x02\x03\x04\x00\x03\x00\x01a\x00\x00\x00\x03bcd\x00\x00\x00\x00\x00\x00\x00\x00"},
		{api.Verdict{Soa: []api.Set{{Name: n("."), Type: 6, Class: 1, Data: []string{strings.Repeat("x", 258)}}}},
			"\x00\x00\x01\x00\x00\x06\x00\x01\x00\x01\x01\x02" + strings.Repeat("x", 258)},
	} {
		if got := verdict.Key(c.v); got != c.want {
			t.Errorf("%q, not %q", got, c.want)
		}
	}
	many := api.Set{Name: "\x00", Data: make([]string, 258)}
	if got := verdict.Key(api.Verdict{Sets: []api.Set{many}}); got[7:9] != "\x01\x02" || len(got) != 9+516+1 {
		t.Errorf("%q", got)
	}
}

func TestP11_2Same(t *testing.T) {
	x := func() api.Verdict {
		return api.Verdict{Sets: []api.Set{{Name: "\x00", Type: 1, Data: []string{"a"}}, {Name: "\x00", Type: 2}}, Soa: []api.Set{{Name: "\x00", Type: 6}}}
	}
	if !verdict.Same(x(), x()) || !verdict.Same(api.Verdict{Sets: []api.Set{}}, api.Verdict{}) {
		t.Error("the same")
	}
	for i, change := range []func(v *api.Verdict){
		func(v *api.Verdict) { v.Code = 3 }, func(v *api.Verdict) { v.Sets[0].Name = n("a.") }, func(v *api.Verdict) { v.Sets[0].Data[0] = "b" },
		func(v *api.Verdict) { v.Sets[1].TTL = 1 }, func(v *api.Verdict) { v.Sets = v.Sets[:1] }, func(v *api.Verdict) { v.Soa = nil },
		func(v *api.Verdict) { v.Soa[0].Class = 1 }, func(v *api.Verdict) { v.Sets, v.Soa = append(v.Sets, v.Soa...), nil }, func(v *api.Verdict) { v.Sets[0], v.Sets[1] = v.Sets[1], v.Sets[0] },
	} {
		y := x()
		change(&y)
		if verdict.Same(x(), y) || verdict.Same(y, x()) {
			t.Error(i)
		}
	}
}

func TestP11_2End(t *testing.T) {
	v := api.Verdict{Sets: []api.Set{{Name: n("a."), Type: api.CNAME, Class: 1, Data: []string{n("b.")}}, {Name: n("b."), Type: api.A, Class: 1, Data: []string{"1234"}}}}
	s, is := verdict.End(ask("a.", api.A), v)
	if !is || !rrset.Same(s, v.Sets[1]) {
		t.Error(s, is)
	}
	if s.Data[0] = "x"; v.Sets[1].Data[0] != "1234" {
		t.Error("shared memory")
	}
	if s, is := verdict.End(ask("a.", api.AAAA), v); is || !rrset.Same(s, api.Set{}) {
		t.Error(s)
	}
	if s, is := verdict.End(ask("a.", api.CNAME), v); is || !rrset.Same(s, api.Set{}) {
		t.Error(s)
	}
	v.Sets = v.Sets[:1]
	if s, is := verdict.End(ask("a.", api.CNAME), v); !is || s.Name != n("a.") {
		t.Error(s)
	}
	if _, is := verdict.End(ask("a.", api.A), v); is {
		t.Error("a chain without an end")
	}
	if _, is := verdict.End(ask("a.", api.A), api.Verdict{Soa: []api.Set{{Type: api.A}}}); is {
		t.Error("without sets")
	}
}

func randomMsg(r *rand.Rand) api.Msg {
	names := []string{"a.", "b.", "a.b.", "."}
	pick := func() string { return names[r.Intn(len(names))] }
	ttl := func() uint32 { return []uint32{0, 1, 3, 7, 1<<31 - 1, 1 << 31}[r.Intn(6)] }
	var l, s []api.Record
	for range r.Intn(5) {
		if r.Intn(2) == 0 {
			l = append(l, cname(pick(), pick(), ttl()))
		} else {
			l = append(l, a(pick(), byte(r.Intn(2)), ttl()))
		}
	}
	for range r.Intn(3) {
		s = append(s, soa(pick(), ttl(), byte(r.Intn(5))))
	}
	return msg(uint8(r.Intn(2)*3), l, s...)
}

func up(l []api.Record) []api.Record {
	c := slices.Clone(l)
	for i := range c {
		c[i].Name = strings.ToUpper(c[i].Name)
		if c[i].Type == api.CNAME {
			c[i].Data = strings.ToUpper(c[i].Data)
		}
	}
	return c
}

func TestP11_3to6Random(t *testing.T) {
	r := rand.New(rand.NewSource(11))
	keys := map[string]api.Verdict{}
	q := ask("a.", api.A)
	for range 4000 {
		m := randomMsg(r)
		v, time, e := verdict.Of(q, m)
		// P11.3: order, repetitions, letter case, other records.
		other := m
		other.Answers = append(up(m.Answers), a("zz.", 1, 1))
		other.Authority = append(up(m.Authority), m.Authority...)
		r.Shuffle(len(other.Answers), func(i, j int) {
			other.Answers[i], other.Answers[j] = other.Answers[j], other.Answers[i]
		})
		slices.Reverse(other.Authority)
		upQ := q
		upQ.Name = strings.ToUpper(q.Name)
		if v2, time2, e2 := verdict.Of(upQ, other); !verdict.Same(v, v2) || time != time2 || e != e2 {
			t.Errorf("%v: %v %v", m, v, v2)
		}
		if e != api.OK {
			continue
		}
		// P11.4: keys.
		key := verdict.Key(v)
		if old, is := keys[key]; is && !verdict.Same(old, v) {
			t.Errorf("%q: %v %v", key, old, v)
		}
		keys[key] = v
		checkTimes(t, r, q, m, v, time)
		checkParts(t, q, v)
	}
	seen := []api.Verdict{}
	for _, v := range keys {
		if slices.ContainsFunc(seen, func(x api.Verdict) bool { return verdict.Same(x, v) }) {
			t.Errorf("two keys for %v", v)
		}
		seen = append(seen, v)
	}
	if len(keys) < 20 {
		t.Error("too few verdicts", len(keys))
	}
}

// checkTimes is P11.3 for TTLs, and P11.5.
func checkTimes(t *testing.T, r *rand.Rand, q api.Question, m api.Msg, v api.Verdict, time uint32) {
	lower := m
	lower.Answers, lower.Authority = slices.Clone(m.Answers), slices.Clone(m.Authority)
	for _, l := range [][]api.Record{lower.Answers, lower.Authority} {
		for i := range l {
			if l[i].TTL > 0 && l[i].TTL <= api.MaxTTL && r.Intn(2) == 0 {
				l[i].TTL--
			}
		}
	}
	v2, time2, e := verdict.Of(q, lower)
	if e != api.OK || !verdict.Same(v, v2) || time2 > time {
		t.Errorf("%v: %d, lowered %d", m, time, time2)
	}
	if time == 0 {
		return
	}
	for _, s := range v.Sets {
		for _, x := range m.Answers {
			if name.Same(x.Name, s.Name) && x.Type == s.Type && time > x.TTL {
				t.Errorf("%v: %d", m, time)
			}
		}
	}
	for _, s := range v.Soa {
		for _, x := range m.Authority {
			if name.Same(x.Name, s.Name) && time > x.TTL {
				t.Errorf("%v: %d", m, time)
			}
		}
	}
}

// checkParts is P11.6.
func checkParts(t *testing.T, q api.Question, v api.Verdict) {
	_, is := verdict.End(q, v)
	if is && len(v.Soa) > 0 || len(v.Soa) > 1 {
		t.Error(v)
	}
	m := msg(v.Code, nil)
	for i, s := range v.Sets {
		if s.TTL != 0 || (s.Type == api.CNAME) != (i < len(v.Sets)-1 || !is) {
			t.Error(v)
		}
		m.Answers = append(m.Answers, rrset.Records(s)...)
	}
	for _, s := range v.Soa {
		if s.TTL != 0 || s.Type != api.SOA {
			t.Error(v)
		}
		m.Authority = append(m.Authority, rrset.Records(s)...)
	}
	if v2, _, e := verdict.Of(q, m); !verdict.Same(v, v2) || e != api.OK {
		t.Errorf("%v %v %v", v, v2, e)
	}
}
