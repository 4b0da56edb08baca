package chain_test

import (
	"fmt"
	"math/rand"
	"slices"
	"testing"

	"hustings/api"
	"hustings/chain"
	"hustings/name"
	"hustings/rrset"
)

func n(s string) string {
	x, e := name.Parse(s)
	if e != api.OK {
		panic(s)
	}
	return x
}

func cname(from, to string) api.Record {
	return api.Record{Name: n(from), Type: api.CNAME, Class: api.IN, TTL: 9, Data: n(to)}
}

func a(at string) api.Record {
	return api.Record{Name: n(at), Type: api.A, Class: api.IN, TTL: 5, Data: "\x0A\x00\x00\x01"}
}

func ask(s string, kind uint16) api.Question {
	return api.Question{Name: n(s), Type: kind, Class: api.IN}
}

// follow tells the result as a text: the names of the chain, where it ends, and the end.
func follow(q api.Question, l []api.Set) string {
	c, at, end, e := chain.Follow(q, l)
	s := ""
	for _, x := range c {
		s += fmt.Sprintf("%s/%d ", name.Text(x.Name), x.Type)
	}
	s += "at " + name.Text(at)
	for _, x := range end {
		s += fmt.Sprintf(" end %s/%d", name.Text(x.Name), x.Type)
	}
	if e != api.OK {
		return fmt.Sprint(s, " error ", int(e))
	}
	return s
}

func TestP9_1(t *testing.T) {
	www := []api.Record{cname("www.ex.", "a.ex."), a("a.ex.")}
	loop := []api.Record{cname("a.", "b."), cname("b.", "a.")}
	chaos := cname("a.", "c.")
	chaos.Class = 3
	other := a("a.")
	other.Class = 3
	for i, c := range []struct {
		l    []api.Record
		q    api.Question
		want string
	}{
		{www, ask("www.ex.", api.A), "www.ex./5 at a.ex. end a.ex./1"},
		{www, ask("WWW.eX.", api.A), "www.ex./5 at a.ex. end a.ex./1"},
		{www, ask("www.ex.", api.CNAME), "at www.ex. end www.ex./5"},
		{www, ask("a.ex.", api.CNAME), "at a.ex."},
		{www, ask("b.ex.", api.A), "at b.ex."},
		{www, ask("B.ex.", api.A), "at b.ex."},
		{www, ask("www.ex.", api.AAAA), "www.ex./5 at a.ex."},
		{www, ask(".", api.A), "at ."},
		{nil, ask("ex.", api.A), "at ex."},
		{loop, ask("a.", api.A), "at  error 8"},
		{loop, ask("b.", api.A), "at  error 8"},
		{loop, ask("a.", api.CNAME), "at a. end a./5"},
		{append(loop, cname("c.", "a.")), ask("c.", api.A), "at  error 8"},
		{[]api.Record{cname("a.", "A.")}, ask("a.", api.A), "at  error 8"},
		{[]api.Record{cname("a.", "b."), a("a.")}, ask("a.", api.A), "at  error 3"},
		{[]api.Record{cname("a.", "b."), a("a.")}, ask("a.", api.AAAA), "a./5 at b."},
		{[]api.Record{cname("a.", "a."), a("a.")}, ask("a.", api.A), "at  error 3"},
		{[]api.Record{cname("a.", "b."), cname("a.", "c.")}, ask("a.", api.A), "at  error 3"},
		{[]api.Record{cname("a.", "b."), cname("a.", "B.")}, ask("a.", api.A), "a./5 at b."},
		{[]api.Record{cname("a.", "b."), cname("b.", "c."), cname("b.", "d.")}, ask("a.", api.A), "at  error 3"},
		{[]api.Record{cname("a.", "b."), cname("b.", "c."), a("b.")}, ask("a.", api.A), "at  error 3"},
		{[]api.Record{cname("a.", "b."), chaos, other}, ask("a.", api.A), "a./5 at b."},
		{[]api.Record{cname("a.", "b."), chaos}, api.Question{Name: n("a."), Type: api.A, Class: 3}, "a./5 at c."},
		{[]api.Record{cname("a.", "b."), a("b."), chaos}, api.Question{Name: n("a."), Type: api.A, Class: 4}, "at a."},
	} {
		if got := follow(c.q, rrset.Group(c.l)); got != c.want {
			t.Errorf("%d: %s, not %s", i, got, c.want)
		}
	}
	for _, bad := range []string{"", "a", "\x01a", "\x40"} {
		if c, at, end, e := chain.Follow(api.Question{Name: bad, Type: api.A, Class: 1}, rrset.Group(www)); len(c) != 0 || at != "" || len(end) != 0 || e != api.ErrArg {
			t.Errorf("%q: %v", bad, e)
		}
	}
}

func TestP9_1Sets(t *testing.T) {
	sets := rrset.Group([]api.Record{cname("www.ex.", "a.EX."), a("a.ex.")})
	c, at, end, e := chain.Follow(ask("www.ex.", api.A), sets)
	if e != api.OK || at != n("a.ex.") || len(c) != 1 || len(end) != 1 || !rrset.Same(c[0], sets[1]) || !rrset.Same(end[0], sets[0]) || c[0].TTL != 9 || end[0].TTL != 5 {
		t.Error(c, at, end, e)
	}
	c[0].Data[0], end[0].Data[0] = "x", "x"
	if sets[0].Data[0] == "x" || sets[1].Data[0] == "x" {
		t.Error("shared memory")
	}
}

// row is a chain of so many CNAMEs: 0. to 1. to 2. and so on.
func row(count int) []api.Record {
	var l []api.Record
	for i := range count {
		l = append(l, cname(fmt.Sprint(i, "."), fmt.Sprint(i+1, ".")))
	}
	return l
}

func TestP9_5Short(t *testing.T) {
	eight := "0./5 1./5 2./5 3./5 4./5 5./5 6./5 7./5 at 8."
	if got := follow(ask("0.", api.A), rrset.Group(row(8))); got != eight {
		t.Error(got)
	}
	if got := follow(ask("0.", api.A), rrset.Group(append(row(8), a("8.")))); got != eight+" end 8./1" {
		t.Error(got)
	}
	for _, count := range []int{9, 12} {
		if got := follow(ask("0.", api.A), rrset.Group(row(count))); got != "at  error 5" {
			t.Error(got)
		}
		if got := follow(ask(fmt.Sprint(count-8, "."), api.A), rrset.Group(row(count))); len(got) < 30 {
			t.Error(got)
		}
	}
	// Too long comes before anything that is wrong with the ninth set.
	for _, more := range [][]api.Record{{cname("8.", "8.")}, {cname("8.", "x."), cname("8.", "y.")}, {cname("8.", "x."), a("8.")}} {
		if got := follow(ask("0.", api.A), rrset.Group(append(row(8), more...))); got != "at  error 5" {
			t.Error(got)
		}
	}
	// A loop of eight is found before that.
	if got := follow(ask("0.", api.A), rrset.Group(append(row(7), cname("7.", "0.")))); got != "at  error 8" {
		t.Error(got)
	}
}

// TestP9_1OtherLists hands in lists that are no result of Group: only the end of the call is promised.
func TestP9_1OtherLists(t *testing.T) {
	for _, l := range [][]api.Set{
		{{Name: n("a."), Type: api.CNAME, Class: 1}}, {{Name: n("a."), Type: api.CNAME, Class: 1, Data: []string{"bad"}}},
		{{Name: n("A."), Type: api.CNAME, Class: 1, Data: []string{n("B.")}}, {Name: n("b."), Type: api.CNAME, Class: 1, Data: []string{n("a."), ""}}},
	} {
		chain.Follow(ask("a.", api.A), l)
	}
}

func TestP9_2to4Random(t *testing.T) {
	r := rand.New(rand.NewSource(9))
	names := []string{"a.", "b.", "c.", "d.", "e.", "f.", "a.f.", "."}
	pick := func() string { return names[r.Intn(len(names))] }
	followed := 0
	for range 3000 {
		var l []api.Record
		for range r.Intn(8) {
			if r.Intn(3) > 0 {
				l = append(l, cname(pick(), pick()))
			} else {
				l = append(l, a(pick()))
			}
			l[len(l)-1].Class = uint16(1 + r.Intn(5)/4)
		}
		q := ask(pick(), []uint16{api.A, api.AAAA, api.CNAME}[r.Intn(3)])
		sets := rrset.Group(l)
		c, at, end, e := chain.Follow(q, sets)
		if e != api.OK {
			continue
		}
		followed += len(c)
		checkPath(t, q, sets, c, at, end)
		checkLocality(t, q, sets, c, at)
	}
	if followed < 300 {
		t.Error("too few chains", followed)
	}
}

// checkPath is P9.2 and P9.3.
func checkPath(t *testing.T, q api.Question, sets, c []api.Set, at string, end []api.Set) {
	here := name.Fold(q.Name)
	seen := []string{here}
	for _, s := range c {
		if s.Name != here || s.Type != api.CNAME || s.Class != q.Class || len(s.Data) != 1 || slices.Contains(seen, s.Data[0]) {
			t.Errorf("%v: %v", q, c)
		}
		here = s.Data[0]
		seen = append(seen, here)
	}
	s, is := rrset.Find(sets, here, q.Type, q.Class)
	if at != here || is != (len(end) == 1) || len(end) > 1 || is && !rrset.Same(s, end[0]) {
		t.Errorf("%v: at %q, %v", q, at, end)
	}
	if q.Type == api.CNAME && len(c) > 0 {
		t.Error("a question of type CNAME has no chain")
	}
	if _, is := rrset.Find(sets, here, api.CNAME, q.Class); is && q.Type != api.CNAME {
		t.Errorf("%v: the chain goes on from %q", q, here)
	}
}

// checkLocality is P9.4: only the sets at the names of the path, of that class, matter.
func checkLocality(t *testing.T, q api.Question, sets, c []api.Set, at string) {
	var l []api.Set
	for _, s := range sets {
		reached := s.Name == at
		for _, x := range c {
			reached = reached || x.Name == s.Name
		}
		if reached && s.Class == q.Class {
			l = append(l, s)
		}
	}
	if follow(q, l) != follow(q, sets) {
		t.Errorf("%v: %v", q, sets)
	}
}
