package tally_test

import (
	"math"
	"math/rand"
	"slices"
	"testing"

	"hustings/api"
	"hustings/tally"
	"hustings/verdict"
)

func say(data string) api.Verdict {
	return api.Verdict{Sets: []api.Set{{Name: "\x00", Type: 1, Class: 1, Data: []string{data}}}}
}

func fresh(t *testing.T, want int) *tally.Box {
	t.Helper()
	b, e := tally.New(want)
	if e != api.OK || b == nil {
		t.Fatal(want, e)
	}
	return b
}

func cast(t *testing.T, b *tally.Box, u int, data string, time uint32) {
	t.Helper()
	if e := b.Cast(tally.Vote{Up: u, Verdict: say(data), Time: time}); e != api.OK {
		t.Error(u, data, e)
	}
}

// won checks by what a box is won; no data stands for a box that is not.
func won(t *testing.T, b *tally.Box, data string, time uint32, by, against []int) {
	t.Helper()
	v, got, l, is := b.Won()
	want := api.Verdict{}
	if data != "" {
		want = say(data)
	}
	if !verdict.Same(v, want) || got != time || !slices.Equal(l, by) || is != (data != "") {
		t.Errorf("%v %d %v %v, not %q %d %v", v, got, l, is, data, time, by)
	}
	if l := b.Against(); !slices.Equal(l, against) {
		t.Errorf("against %v, not %v", l, against)
	}
}

func TestP21_1Example(t *testing.T) {
	b := fresh(t, 2)
	cast(t, b, 0, "x", 9)
	won(t, b, "", 0, nil, nil)
	cast(t, b, 1, "y", 1)
	won(t, b, "", 0, nil, nil)
	if b.Most() != 1 {
		t.Error(b.Most())
	}
	cast(t, b, 2, "x", 5)
	won(t, b, "x", 5, []int{0, 2}, []int{1})
	if e := b.Cast(tally.Vote{Up: 1}); e != api.ErrHave || b.Most() != 2 {
		t.Error(e, b.Most())
	}
	won(t, b, "x", 5, []int{0, 2}, []int{1})
}

func TestP21_1New(t *testing.T) {
	for _, n := range []int{0, -1, 10, math.MinInt, math.MaxInt} {
		if b, e := tally.New(n); b != nil || e != api.ErrArg {
			t.Error(n, e)
		}
	}
	for want := 1; want <= 9; want++ {
		b := fresh(t, want)
		for u := range want {
			won(t, b, "", 0, nil, nil)
			cast(t, b, u, "x", 7)
		}
		if _, _, by, is := b.Won(); !is || len(by) != want || b.Most() != want {
			t.Error(want, by)
		}
	}
}

func TestP21_1Errors(t *testing.T) {
	b := fresh(t, 1)
	for _, u := range []int{-1, 9, math.MinInt, math.MaxInt} {
		if b.Cast(tally.Vote{Up: u}) != api.ErrArg || b.Pass(u) != api.ErrArg || b.Has(u) {
			t.Error(u)
		}
	}
	if b.Pass(8) != api.OK || b.Pass(8) != api.ErrHave || b.Cast(tally.Vote{Up: 8}) != api.ErrHave || !b.Has(8) || b.Has(0) {
		t.Error("pass")
	}
	won(t, b, "", 0, nil, nil)
	cast(t, b, 0, "x", 4)
	if b.Pass(0) != api.ErrHave || !b.Has(0) || len(b.Votes()) != 1 {
		t.Error("a second ballot")
	}
	won(t, b, "x", 4, []int{0}, nil)
}

func TestP21_1ZeroAndNil(t *testing.T) {
	var zero tally.Box
	for u := range 9 {
		cast(t, &zero, u, "x", 1)
		won(t, &zero, "", 0, nil, nil)
	}
	if zero.Most() != 9 || len(zero.Votes()) != 9 {
		t.Error(zero.Most())
	}
	var none *tally.Box
	if none.Cast(tally.Vote{Up: -1}) != api.ErrNil || none.Pass(0) != api.ErrNil || none.Most() != 0 || len(none.Votes()) != 0 || none.Has(0) || none.Copy() != nil {
		t.Error("nil")
	}
	won(t, none, "", 0, nil, nil)
}

func TestP21_2Votes(t *testing.T) {
	b := fresh(t, 3)
	cast(t, b, 5, "x", 3)
	b.Pass(4)
	cast(t, b, 0, "y", 2)
	cast(t, b, 8, "x", 1)
	l := b.Votes()
	if len(l) != 3 {
		t.Fatal(l)
	}
	for i, want := range []tally.Vote{{Up: 5, Time: 3, Verdict: say("x")}, {Up: 0, Time: 2, Verdict: say("y")}, {Up: 8, Time: 1, Verdict: say("x")}} {
		if l[i].Up != want.Up || l[i].Time != want.Time || !verdict.Same(l[i].Verdict, want.Verdict) {
			t.Error(i, l[i])
		}
	}
	l[0].Verdict.Sets[0].Data[0] = "changed"
	if b.Votes()[0].Verdict.Sets[0].Data[0] != "x" || b.Most() != 2 {
		t.Error("shared memory")
	}
}

func TestP21_1NewMemory(t *testing.T) {
	b := fresh(t, 2)
	v := say("x")
	b.Cast(tally.Vote{Up: 1, Verdict: v, Time: 9})
	v.Sets[0].Data[0] = "changed"
	cast(t, b, 0, "x", 9)
	won(t, b, "x", 9, []int{0, 1}, nil)
	got, _, by, _ := b.Won()
	got.Sets[0].Data[0], by[0] = "changed", 7
	won(t, b, "x", 9, []int{0, 1}, nil)
}

func TestP21_2SameVerdict(t *testing.T) {
	// Verdicts whose bytes, strung together, are alike are not the same.
	l := []api.Verdict{
		{}, {Code: 3}, say("x"), say(""), {Sets: []api.Set{{Name: "\x00", Type: 1, Class: 1, Data: []string{"x", ""}}}}, {Soa: say("x").Sets},
		{Sets: []api.Set{{Name: "\x01a\x00", Type: 1, Class: 1, Data: []string{"x"}}}}, {Sets: []api.Set{{Name: "\x00", Type: 2, Class: 1, Data: []string{"x"}}}}, {Sets: []api.Set{{Name: "\x00", Type: 1, Class: 2, Data: []string{"x"}}}},
	}
	b := fresh(t, 2)
	for u, v := range l {
		if e := b.Cast(tally.Vote{Up: u, Verdict: v}); e != api.OK {
			t.Error(e)
		}
	}
	if b.Most() != 1 {
		t.Error(b.Most())
	}
	won(t, b, "", 0, nil, nil)
}

func TestP21_5Final(t *testing.T) {
	b := fresh(t, 2)
	cast(t, b, 3, "y", 8)
	cast(t, b, 4, "x", 9)
	b.Pass(6)
	cast(t, b, 2, "x", 9)
	won(t, b, "x", 9, []int{2, 4}, []int{3})
	cast(t, b, 1, "x", 1) // the same, but later
	won(t, b, "x", 9, []int{2, 4}, []int{3})
	cast(t, b, 0, "y", 1)
	cast(t, b, 8, "y", 1)
	won(t, b, "x", 9, []int{2, 4}, []int{0, 3, 8})
	if b.Most() != 3 {
		t.Error(b.Most())
	}
}

func TestP21_3to6Random(t *testing.T) {
	r := rand.New(rand.NewSource(21))
	for range 1000 {
		want := 1 + r.Intn(5)
		b := fresh(t, want)
		var winner string
		var by []int
		var time uint32
		said := map[string][]int{}
		times := map[int]uint32{}
		passed := map[int]bool{}
		for range 14 {
			u := r.Intn(9)
			data := string([]byte{'x' + byte(r.Intn(3))})
			had := b.Has(u)
			if r.Intn(4) == 0 {
				if (b.Pass(u) == api.ErrHave) != had {
					t.Error("pass")
				}
				passed[u] = passed[u] || !had
			} else if e := b.Cast(tally.Vote{Up: u, Verdict: say(data), Time: uint32(r.Intn(9) + 1)}); (e == api.ErrHave) != had {
				t.Error("cast")
			} else if !had {
				said[data] = append(said[data], u)
				times[u] = b.Votes()[len(b.Votes())-1].Time
				if winner == "" && len(said[data]) == want {
					winner, by, time = data, slices.Clone(said[data]), math.MaxUint32
					for _, x := range by {
						time = min(time, times[x])
					}
					slices.Sort(by)
				}
			}
			var against []int
			most := 0
			for d, l := range said {
				most = max(most, len(l))
				if winner != "" && d != winner {
					against = append(against, l...)
				}
			}
			slices.Sort(against)
			won(t, b, winner, time, by, against)
			if b.Most() != most || len(b.Votes()) != len(times) {
				t.Error(b.Most(), most)
			}
			for u := range 9 {
				_, voted := times[u]
				if b.Has(u) != (voted || passed[u]) {
					t.Error("has", u)
				}
			}
		}
	}
}

func TestP21_2Copy(t *testing.T) {
	b := fresh(t, 2)
	cast(t, b, 0, "x", 9)
	c := b.Copy()
	cast(t, c, 1, "x", 3)
	won(t, b, "", 0, nil, nil)
	won(t, c, "x", 3, []int{0, 1}, nil)
	cast(t, b, 2, "y", 1)
	b.Pass(3)
	won(t, c, "x", 3, []int{0, 1}, nil)
	if c.Has(2) || c.Has(3) || b.Has(1) {
		t.Error("has")
	}
	// However many votes there are, those that come later are each box's own.
	for n := range 8 {
		b := fresh(t, 9)
		for u := range n {
			cast(t, b, u, "x", 1)
		}
		c := b.Copy()
		cast(t, c, n, "c", 2)
		cast(t, b, n, "b", 3)
		for box, want := range map[*tally.Box]api.Verdict{b: say("b"), c: say("c")} {
			if l := box.Votes(); len(l) != n+1 || !verdict.Same(l[n].Verdict, want) {
				t.Error(n, l)
			}
		}
	}
}
