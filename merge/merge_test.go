package merge_test

import (
	"math"
	"math/rand"
	"slices"
	"strings"
	"testing"

	"hustings/api"
	"hustings/merge"
	"hustings/name"
	"hustings/tally"
	"hustings/verdict"
)

const (
	www = "\x03www\x02ex\x00"
	cdn = "\x01a\x03cdn\x00"
)

func ask() api.Question { return api.Question{Name: "\x03wWw\x02EX\x00", Type: api.A, Class: api.IN} }

func set(n string, kind uint16, data ...string) api.Set {
	return api.Set{Name: n, Type: kind, Class: api.IN, Data: data}
}

// addresses are sets of addresses that begin with these bytes.
func addresses(n string, data ...string) api.Set {
	s := set(n, api.A)
	for _, d := range data {
		s.Data = append(s.Data, d+strings.Repeat("\x00", 4-len(d)))
	}
	return s
}

func direct(data ...string) api.Verdict {
	return api.Verdict{Sets: []api.Set{addresses(www, data...)}}
}

func chained(data ...string) api.Verdict {
	return api.Verdict{Sets: []api.Set{set(www, api.CNAME, cdn), addresses(cdn, data...)}}
}

func none(code uint8) api.Verdict {
	return api.Verdict{Code: code, Soa: []api.Set{set("\x02ex\x00", api.SOA, strings.Repeat("\x00", 22))}}
}

func vote(u int, v api.Verdict, time uint32) tally.Vote {
	return tally.Vote{Up: u, Verdict: v, Time: time}
}

func check(t *testing.T, l []tally.Vote, want api.Verdict, time uint32) {
	t.Helper()
	v, got, is := merge.Union(ask(), l)
	if !is || !verdict.Same(v, want) || got != time {
		t.Errorf("%v: %v %d %v", l, v, got, is)
	}
}

func TestP23_1Examples(t *testing.T) {
	check(t, []tally.Vote{vote(0, direct("1"), 5), vote(1, chained("2"), 7)}, direct("1", "2"), 5)
	check(t, []tally.Vote{vote(1, none(3), 5), vote(0, none(0), 7)}, none(0), 5)
	check(t, []tally.Vote{vote(0, none(0), 9), vote(1, none(3), 0)}, none(0), 0)
	check(t, []tally.Vote{vote(0, none(3), 4), vote(1, direct("1"), 2)}, direct("1"), 2)
	check(t, []tally.Vote{vote(7, direct("1"), 4)}, direct("1"), 4)
	check(t, []tally.Vote{vote(7, chained("1"), 4), vote(8, none(3), 4)}, direct("1"), 4)
	check(t, []tally.Vote{vote(2, direct("a", "c"), 4), vote(1, chained("a", "b", "c"), 8), vote(0, direct("aa"), 6)}, direct("a", "aa", "b", "c"), 4)
	check(t, []tally.Vote{vote(2, none(3), math.MaxInt32)}, none(3), math.MaxInt32)
}

func TestP23_1None(t *testing.T) {
	if v, time, is := merge.Union(ask(), nil); is || time != 0 || !verdict.Same(v, api.Verdict{}) {
		t.Error(v, time, is)
	}
	for _, n := range []string{"", "ex", "\x01"} {
		if v, time, is := merge.Union(api.Question{Name: n, Type: api.A}, []tally.Vote{vote(0, direct("1"), 5)}); is || time != 0 || !verdict.Same(v, api.Verdict{}) {
			t.Error(v, time, is)
		}
	}
}

func TestP23_1OfOneUpstream(t *testing.T) {
	check(t, []tally.Vote{vote(3, none(0), 5), vote(1, none(3), 6), vote(1, none(0), 7)}, none(3), 5)
	check(t, []tally.Vote{vote(1, none(0), 5), vote(3, none(0), 6), vote(1, none(3), 7)}, none(0), 5)
}

func TestP23_4Unanimity(t *testing.T) {
	for _, v := range []api.Verdict{direct("1"), chained("1", "2"), none(0), none(3), {Code: 3}, {}} {
		check(t, []tally.Vote{vote(4, v, 9), vote(2, v, 3), vote(3, v, 5)}, v, 3)
	}
}

func TestP23_1TypeOfQuestion(t *testing.T) {
	q := api.Question{Name: www, Type: api.CNAME, Class: api.IN}
	l := []tally.Vote{vote(0, api.Verdict{Sets: []api.Set{set(www, api.CNAME, "\x01x\x00")}}, 1), vote(1, api.Verdict{Sets: []api.Set{set(www, api.CNAME, "\x01y\x00")}}, 2)}
	v, _, _ := merge.Union(q, l)
	if !verdict.Same(v, api.Verdict{Sets: []api.Set{set(www, api.CNAME, "\x01x\x00", "\x01y\x00")}}) {
		t.Error(v)
	}
	// A chain alone is no end of a question for addresses.
	check(t, []tally.Vote{vote(1, l[0].Verdict, 1), vote(0, l[1].Verdict, 2)}, l[1].Verdict, 1)
}

func TestP23_2to5Random(t *testing.T) {
	r := rand.New(rand.NewSource(23))
	for range 2000 {
		var l []tally.Vote
		for _, u := range r.Perm(9)[:1+r.Intn(5)] {
			var data []string
			for _, d := range []string{"a", "b", "c"} {
				if r.Intn(2) == 0 {
					data = append(data, d)
				}
			}
			v := []api.Verdict{direct(data...), chained(data...), none(0), none(3)}[r.Intn(4)]
			if len(data) == 0 {
				v = none(3)
			}
			l = append(l, tally.Vote{Up: u, Verdict: v, Time: uint32(r.Intn(9))})
		}
		v, time, is := merge.Union(ask(), l)
		m := slices.Clone(l)
		r.Shuffle(len(m), func(i, j int) { m[i], m[j] = m[j], m[i] })
		if w, time2, is2 := merge.Union(ask(), m); !verdict.Same(v, w) || time != time2 || is != is2 {
			t.Errorf("%v: %v %v", l, v, w)
		}
		same, least, first := true, l[0].Time, l[0]
		var all []string
		for _, x := range l {
			same = same && verdict.Same(x.Verdict, l[0].Verdict)
			least = min(least, x.Time)
			if x.Up < first.Up {
				first = x
			}
			if end, has := verdict.End(ask(), x.Verdict); has {
				all = append(all, end.Data...)
			}
		}
		if time != least {
			t.Error(time, least)
		}
		if same || len(all) == 0 {
			if !verdict.Same(v, first.Verdict) {
				t.Errorf("%v: %v", l, v)
			}
			continue
		}
		slices.Sort(all)
		all = slices.Compact(all)
		if v.Code != 0 || len(v.Soa) != 0 || len(v.Sets) != 1 || v.Sets[0].Name != name.Fold(www) || v.Sets[0].Type != api.A || v.Sets[0].Class != api.IN || v.Sets[0].TTL != 0 || !slices.Equal(v.Sets[0].Data, all) {
			t.Errorf("%v: %v", l, v)
		}
	}
}

func TestP23_1NewMemory(t *testing.T) {
	for _, l := range [][]tally.Vote{{vote(0, direct("1"), 1)}, {vote(0, direct("1"), 1), vote(1, direct("2"), 1)}, {vote(0, none(0), 1), vote(1, none(3), 1)}} {
		v, _, _ := merge.Union(ask(), l)
		for _, s := range append(v.Sets, v.Soa...) {
			s.Data[0] = "changed"
		}
		for _, x := range l {
			for _, s := range append(x.Verdict.Sets, x.Verdict.Soa...) {
				if s.Data[0] == "changed" {
					t.Error("shared memory")
				}
			}
		}
	}
}
