package resolver_test

import (
	"math/rand"
	"slices"
	"strings"
	"testing"

	"hustings/api"
	"hustings/chain"
	"hustings/heard"
	"hustings/name"
	"hustings/resolver"
	"hustings/rrset"
	"hustings/soa"
	"hustings/verdict"
	"hustings/wire"
)

func n(s string) string {
	x, e := name.Parse(s)
	if e != api.OK {
		panic(s)
	}
	return x
}

func rec(at string, kind uint16, ttl uint32, data string) api.Record {
	return api.Record{Name: n(at), Type: kind, Class: api.IN, TTL: ttl, Data: data}
}

func soaOf(at string, ttl uint32, last byte) api.Record {
	return rec(at, api.SOA, ttl, "\x00\x00"+strings.Repeat("\x00", 19)+string([]byte{last}))
}

func fresh(t *testing.T, l ...api.Record) *resolver.Resolver {
	t.Helper()
	r, e := resolver.New(l)
	if e != api.OK || r == nil {
		t.Fatal(e)
	}
	return r
}

func query(t *testing.T, at string, kind uint16, edns int) string {
	t.Helper()
	m := api.Msg{Head: api.Head{ID: 7, RD: true}, Questions: []api.Question{{Name: n(at), Type: kind, Class: api.IN}}}
	if edns >= 0 {
		m.HasEdns, m.Edns.Size = true, uint16(edns)
	}
	return encode(t, m)
}

func encode(t *testing.T, m api.Msg) string {
	t.Helper()
	s, e := wire.Encode(m)
	if e != api.OK {
		t.Fatal(m, e)
	}
	return s
}

func ask(t *testing.T, r *resolver.Resolver, at string, kind uint16) api.Msg {
	t.Helper()
	m, e := wire.Decode(r.Answer(query(t, at, kind, 4096)))
	if e != api.OK {
		t.Fatal(at, e)
	}
	return m
}

func example(t *testing.T) *resolver.Resolver {
	return fresh(t, rec("www.ex.", api.CNAME, 9, n("a.ex.")), rec("a.ex.", api.A, 5, "\x0A\x00\x00\x01"), soaOf("ex.", 7, 3))
}

func TestP30_1Example(t *testing.T) {
	r := example(t)
	want := "\x00\x07\x81\x80\x00\x01\x00\x02\x00\x00\x00\x00\x03www\x02ex\x00\x00\x01\x00\x01" +
		"\xC0\x0C\x00\x05\x00\x01\x00\x00\x00\x09\x00\x04\x01a\xC0\x10" + "\xC0\x24\x00\x01\x00\x01\x00\x00\x00\x05\x00\x04\x0A\x00\x00\x01"
	if got := r.Answer(query(t, "www.ex.", api.A, -1)); got != want {
		t.Errorf("%q", got)
	}
	for _, c := range []struct {
		at             string
		kind           uint16
		code           uint8
		answers, soaes int
	}{{"b.ex.", api.A, 3, 0, 1}, {"www.ex.", api.AAAA, 0, 1, 1}, {"ex.", api.A, 0, 0, 1}, {".", api.A, 0, 0, 0}, {"c.", api.A, 3, 0, 0}, {"a.ex.", api.A, 0, 1, 0}, {"www.ex.", api.CNAME, 0, 1, 0}, {"ex.", api.SOA, 0, 1, 0}, {"x.a.ex.", api.A, 3, 0, 1}} {
		m := ask(t, r, c.at, c.kind)
		if m.Code != c.code || len(m.Answers) != c.answers || len(m.Authority) != c.soaes {
			t.Errorf("%v: %v", c, m)
		}
		if c.soaes == 1 && (m.Authority[0].Name != n("ex.") || m.Authority[0].TTL != 7) {
			t.Error(m)
		}
	}
}

func TestP30_1Header(t *testing.T) {
	m := api.Msg{Head: api.Head{ID: 0x0102, AA: true, TC: true, RA: true, Z: true, AD: true, CD: true, Code: 5}, Questions: []api.Question{{Name: n("A.Ex."), Type: api.A, Class: api.IN}}, HasEdns: true,
		Edns: api.Edns{Size: 600, Ext: 1, Version: 2, Flags: 3, Options: []api.Option{{Code: 4}}}, Extra: []api.Record{rec(".", 99, 1, "x")}, Answers: []api.Record{rec(".", 99, 1, "x")}}
	got, e := wire.Decode(example(t).Answer(encode(t, m)))
	want := api.Msg{Head: api.Head{ID: 0x0102, QR: true, RA: true}, Questions: m.Questions, Answers: []api.Record{rec("a.ex.", api.A, 5, "\x0A\x00\x00\x01")}, HasEdns: true, Edns: api.Edns{Size: 4096}}
	if !wire.Same(got, want) || e != api.OK {
		t.Error(got)
	}
	m.HasEdns, m.Edns, m.RD = false, api.Edns{}, true
	want.HasEdns, want.Edns, want.RD = false, api.Edns{}, true
	if got, _ := wire.Decode(example(t).Answer(encode(t, m))); !wire.Same(got, want) {
		t.Error(got)
	}
}

func TestP30_1NoQuery(t *testing.T) {
	r := example(t)
	q := query(t, "a.ex.", api.A, -1)
	var none *resolver.Resolver
	if got := none.Answer(q); got != "" || len(none.Records()) != 0 {
		t.Errorf("%q", got)
	}
	two, _ := wire.Decode(q)
	two.Questions = append(two.Questions, two.Questions[0])
	for _, s := range []string{"", q[:11], q[:len(q)-1], q + "\x00", "\x00\x07\x81" + q[3:], "\x00\x07\x09" + q[3:], strings.Repeat("\x00", 12), encode(t, two), strings.Repeat("\x00", 70000)} {
		if got := r.Answer(s); got != "" {
			t.Errorf("%q: %q", s, got)
		}
	}
	var zero resolver.Resolver
	m := ask(t, &zero, "a.ex.", api.A)
	if m.Code != 3 || len(m.Answers)+len(m.Authority) > 0 || len(zero.Records()) != 0 {
		t.Error(m)
	}
}

func TestP30_1New(t *testing.T) {
	bad := []api.Record{{Name: "bad", Type: 99}, rec("a.", api.A, 1, "123"), rec(".", api.OPT, 1, "")}
	many := slices.Repeat([]api.Record{rec(".", 99, 1, "x")}, 65536)
	for _, x := range bad {
		for _, l := range [][]api.Record{{x}, {rec("a.", api.A, 1, "1234"), x}, append(slices.Clone(many), x)} {
			if r, e := resolver.New(l); r != nil || e != api.ErrArg {
				t.Error(e)
			}
		}
	}
	if r, e := resolver.New(many); r != nil || e != api.ErrLong {
		t.Error(e)
	}
	if got := fresh(t, many[1:]...).Records(); len(got) != 1 {
		t.Error(len(got))
	}
}

func TestP30_1Errors(t *testing.T) {
	loop := fresh(t, rec("a.", api.CNAME, 1, n("b.")), rec("b.", api.CNAME, 1, n("a.")), soaOf(".", 1, 1))
	two := fresh(t, soaOf("ex.", 1, 1), soaOf("ex.", 1, 2), rec("a.ex.", api.A, 1, "1234"), rec("w.ex.", api.CNAME, 1, n("x.ex.")))
	for _, c := range []struct {
		r  *resolver.Resolver
		at string
	}{{loop, "a."}, {loop, "b."}, {two, "b.ex."}, {two, "ex."}, {two, "w.ex."}} {
		if m := ask(t, c.r, c.at, api.A); m.Code != 2 || len(m.Answers)+len(m.Authority) > 0 {
			t.Error(c.at, m)
		}
	}
	// With an end the SOA set does not matter.
	if m := ask(t, two, "a.ex.", api.A); m.Code != 0 || len(m.Answers) != 1 || len(m.Authority) > 0 {
		t.Error(m)
	}
}

func TestP30_1Sizes(t *testing.T) {
	var l []api.Record
	for i := range 255 {
		l = append(l, rec("ex.", api.A, 5, string([]byte{10, 0, 0, byte(i)})), rec("big.", 99, 5, strings.Repeat("x", 400)+string([]byte{byte(i)})))
	}
	l = append(l, rec("n.", 99, 1, strings.Repeat("y", 481)), rec("m.", 99, 1, strings.Repeat("y", 482)))
	r := fresh(t, l...)
	// A question of ex. takes 20 bytes, each address 16, EDNS 11: 4111 bytes.
	for edns, cut := range map[int]bool{-1: true, 0: true, 512: true, 4110: true, 4111: false, 65535: false} {
		s := r.Answer(query(t, "ex.", api.A, edns))
		m, e := wire.Decode(s)
		if e != api.OK || m.TC != cut || (len(m.Answers) == 0) != cut || !cut && len(s) != 4111 || m.Code != 0 {
			t.Error(edns, len(s), m.TC)
		}
	}
	for at, size := range map[string]int{"n.": 512, "m.": 19} {
		if s := r.Answer(query(t, at, 99, -1)); len(s) != size {
			t.Error(at, len(s))
		}
	}
	if s := r.Answer(query(t, "big.", 99, 65535)); len(s) != 32 {
		t.Error("more than MaxMessage", len(s))
	}
}

func TestP30_2Records(t *testing.T) {
	r := fresh(t, rec("b.", api.A, 9, "1235"), rec("B.", api.A, 5, "1234"), rec("a.", api.NS, 1<<31, n("X.")), rec("b.", api.A, 7, "1235"))
	want := []api.Record{rec("a.", api.NS, 0, n("x.")), rec("b.", api.A, 5, "1234"), rec("b.", api.A, 5, "1235")}
	got := r.Records()
	if !slices.Equal(got, want) {
		t.Error(got)
	}
	got[0].Name = "changed"
	if !slices.Equal(r.Records(), want) {
		t.Error("shared memory")
	}
}

var texts = []string{"a.", "b.", "c.", "x.a.", "y.x.a.", "d.", "."}

func randomRecords(r *rand.Rand) []api.Record {
	var l []api.Record
	pick := func() string { return texts[r.Intn(len(texts))] }
	for range r.Intn(10) {
		var x api.Record
		switch r.Intn(4) {
		case 0:
			x = rec(pick(), api.CNAME, uint32(r.Intn(9)), n(pick()))
		case 1:
			x = soaOf(pick(), uint32(r.Intn(9)), byte(r.Intn(3)))
		default:
			x = rec(pick(), api.A, uint32(r.Intn(9)), string([]byte{1, 2, 3, byte(r.Intn(3))}))
		}
		x.Class = uint16(1 + r.Intn(6)/5)
		l = append(l, x)
	}
	return l
}

func TestP30_3to7Random(t *testing.T) {
	r := rand.New(rand.NewSource(30))
	seen := map[uint8]int{}
	for range 3000 {
		l := randomRecords(r)
		res := fresh(t, l...)
		q := api.Question{Name: n(texts[r.Intn(len(texts))]), Type: []uint16{api.A, api.CNAME, api.NS, api.SOA}[r.Intn(4)], Class: uint16(1 + r.Intn(2))}
		s, _ := heard.Query(q, 9, 4096)
		out := res.Answer(s)
		m, e := wire.Decode(out)
		if e != api.OK || m.TC {
			t.Fatal(e)
		}
		checkTruth(t, l, q, m, out)
		seen[m.Code]++
		// P30.4: order, repetitions, letter case.
		other := append(slices.Clone(l), l...)
		r.Shuffle(len(other), func(i, j int) { other[i], other[j] = other[j], other[i] })
		for i := range other {
			other[i].Name = strings.ToUpper(other[i].Name)
			if other[i].Type == api.CNAME {
				other[i].Data = strings.ToUpper(other[i].Data)
			}
		}
		if got := fresh(t, other...).Answer(s); got != out {
			t.Errorf("%v: %q, not %q", l, got, out)
		}
		// P30.6: the letter case of the question.
		up := q
		up.Name = strings.ToUpper(q.Name)
		m2, e := wire.Decode(res.Answer(encode(t, api.Msg{Head: api.Head{ID: 9, RD: true}, Questions: []api.Question{up}, HasEdns: true, Edns: api.Edns{Size: 4096}})))
		if e != api.OK || m2.Questions[0] != up {
			t.Error(m2)
		}
		if m2.Questions = m.Questions; !wire.Same(m, m2) {
			t.Errorf("%v, not %v", m2, m)
		}
		// P30.7: other classes.
		mine := slices.DeleteFunc(slices.Clone(l), func(x api.Record) bool { return x.Class != q.Class })
		if got := fresh(t, mine...).Answer(s); got != out {
			t.Errorf("%v: %q, not %q", l, got, out)
		}
	}
	for _, code := range []uint8{0, 2, 3} {
		if seen[code] < 40 {
			t.Error(seen)
		}
	}
}

// checkTruth is P30.3 and P30.5.
func checkTruth(t *testing.T, l []api.Record, q api.Question, m api.Msg, out string) {
	t.Helper()
	sets := rrset.Group(l)
	_, at, end, e := chain.Follow(q, sets)
	_, _, e2 := soa.Find(sets, at, q.Class)
	fails := e != api.OK || len(end) == 0 && e2 != api.OK
	if (m.Code == 2) != fails {
		t.Errorf("%v in %v: %v", q, l, m)
	}
	reply := heard.Look(q, out)
	if fails {
		if reply.Kind != heard.Pass || len(m.Answers)+len(m.Authority) > 0 {
			t.Error(reply)
		}
		return
	}
	v, time, e := verdict.Of(q, api.Msg{Head: api.Head{Code: m.Code}, Answers: l, Authority: l})
	if e != api.OK || reply.Kind != heard.Vote || !verdict.Same(reply.Verdict, v) || reply.Time != time {
		t.Errorf("%v in %v: %v, not %v %d", q, l, reply, v, time)
	}
	there := slices.ContainsFunc(l, func(x api.Record) bool { return x.Class == q.Class && name.Within(x.Name, at) })
	if (m.Code == 3) != (len(end) == 0 && !there) {
		t.Errorf("%v in %v: %v", q, l, m)
	}
}
