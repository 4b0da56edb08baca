package repute_test

import (
	"math"
	"math/rand"
	"slices"
	"testing"

	"hustings/api"
	"hustings/repute"
)

func fresh(t *testing.T, ups, limit, rest int) *repute.Book {
	t.Helper()
	b, e := repute.New(ups, limit, rest)
	if e != api.OK || b == nil {
		t.Fatal(ups, limit, rest, e)
	}
	return b
}

func dissent(t *testing.T, b *repute.Book, u int, now int64) {
	t.Helper()
	if e := b.Dissent(u, now); e != api.OK {
		t.Error(u, now, e)
	}
}

// state checks an upstream: its score, and whether it rests and is on trial.
func state(t *testing.T, b *repute.Book, u, score int, rests, trial bool) {
	t.Helper()
	if b.Score(u) != score || b.Rests(u) != rests || b.Trial(u) != trial {
		t.Errorf("%d: %d %v %v, not %d %v %v", u, b.Score(u), b.Rests(u), b.Trial(u), score, rests, trial)
	}
	if slices.Contains(b.May(), u) == rests {
		t.Errorf("%d: may be asked %v", u, b.May())
	}
}

func counts(t *testing.T, b *repute.Book, u int, want [3]int) {
	t.Helper()
	agree, dissent, silent := b.Counts(u)
	if got := [3]int{agree, dissent, silent}; got != want {
		t.Errorf("%d: %v, not %v", u, got, want)
	}
}

func TestP19_1Example(t *testing.T) {
	b := fresh(t, 3, 95, 10)
	if at, is := b.Due(); at != 0 || is {
		t.Error(at, is)
	}
	dissent(t, b, 0, 4)
	state(t, b, 0, 90, true, false)
	if at, is := b.Due(); at != 14 || !is {
		t.Error(at, is)
	}
	dissent(t, b, 1, 4)
	state(t, b, 1, 90, false, false)
	if l := b.Back(13); len(l) != 0 {
		t.Error(l)
	}
	state(t, b, 0, 90, true, false)
	if l := b.Back(14); !slices.Equal(l, []int{0}) {
		t.Error(l)
	}
	if l := b.Back(14); len(l) != 0 {
		t.Error(l)
	}
	state(t, b, 0, 95, false, true)
	for i := range 5 {
		state(t, b, 0, 95+i, false, true)
		if e := b.Agree(0); e != api.OK {
			t.Error(e)
		}
	}
	state(t, b, 0, 100, false, false)
	counts(t, b, 0, [3]int{5, 1, 0})
}

func TestP19_1New(t *testing.T) {
	for ups := -2; ups < 13; ups++ {
		b, e := repute.New(ups, 50, 10)
		if !slices.Contains([]int{1, 3, 5, 7, 9}, ups) {
			if b != nil || e != api.ErrArg {
				t.Error(ups, e)
			}
			continue
		}
		if e != api.OK || b.Len() != ups || len(b.May()) != ups {
			t.Error(ups, e)
		}
		for u := range ups {
			state(t, b, u, 100, false, false)
			counts(t, b, u, [3]int{})
		}
	}
	for _, x := range [][3]int{{3, 0, 10}, {3, 101, 10}, {3, 50, 0}, {3, 50, 100001}, {3, -1, 10}, {3, 50, -1}, {math.MaxInt, 50, 10}, {math.MinInt, 50, 10}, {3, math.MaxInt, 10}, {3, 50, math.MaxInt}} {
		if b, e := repute.New(x[0], x[1], x[2]); b != nil || e != api.ErrArg {
			t.Error(x, e)
		}
	}
	for _, x := range [][3]int{{3, 1, 1}, {3, 100, 100000}} {
		fresh(t, x[0], x[1], x[2])
	}
}

func TestP19_1Errors(t *testing.T) {
	b := fresh(t, 3, 50, 10)
	for _, u := range []int{-1, 3, 9, math.MinInt, math.MaxInt} {
		if b.Agree(u) != api.ErrArg || b.Dissent(u, 1) != api.ErrArg || b.Silent(u) != api.ErrArg || b.Score(u) != 0 || b.Rests(u) || b.Trial(u) {
			t.Error(u)
		}
		counts(t, b, u, [3]int{})
	}
	for _, now := range []int64{-1, api.MaxTicks + 1, math.MinInt64, math.MaxInt64} {
		if b.Dissent(0, now) != api.ErrArg {
			t.Error(now)
		}
	}
	state(t, b, 0, 100, false, false)
	counts(t, b, 0, [3]int{})
	dissent(t, b, 0, 0)
	dissent(t, b, 0, api.MaxTicks)
	counts(t, b, 0, [3]int{0, 2, 0})
}

func TestP19_2ZeroAndNil(t *testing.T) {
	var zero repute.Book
	var none *repute.Book
	for i, b := range []*repute.Book{&zero, none} {
		want := []api.Errno{api.ErrArg, api.ErrNil}[i]
		if b.Agree(0) != want || b.Dissent(0, 0) != want || b.Silent(0) != want || b.Dissent(-1, -1) != want || len(b.Back(9)) != 0 {
			t.Error(i)
		}
		if len(b.May()) != 0 || b.Score(0) != 0 || b.Rests(0) || b.Trial(0) || b.Len() != 0 {
			t.Error(i)
		}
		counts(t, b, 0, [3]int{})
		if at, is := b.Due(); at != 0 || is {
			t.Error(at, is)
		}
	}
	if none.Copy() != nil || zero.Copy().Len() != 0 {
		t.Error("copy")
	}
}

func TestP19_4Bounds(t *testing.T) {
	b := fresh(t, 1, 50, 10)
	for i := 1; i <= 12; i++ {
		dissent(t, b, 0, 1)
		state(t, b, 0, max(0, 100-10*i), false, false)
	}
	b.Agree(0)
	state(t, b, 0, 1, false, false)
	b.Silent(0)
	state(t, b, 0, 0, false, false)
	for range 70000 {
		b.Agree(0)
		b.Silent(0)
		b.Dissent(0, 1)
	}
	counts(t, b, 0, [3]int{65535, 65535, 65535})
	state(t, b, 0, 0, false, false)
	for range 120 {
		b.Agree(0)
	}
	state(t, b, 0, 100, false, false)
	for i := 1; i <= 55; i++ {
		b.Silent(0)
		state(t, b, 0, max(0, 100-2*i), false, false)
	}
}

func TestP19_5Suspension(t *testing.T) {
	// Exactly the limit is not below it.
	b := fresh(t, 5, 90, 10)
	dissent(t, b, 2, 3)
	state(t, b, 2, 90, false, false)
	dissent(t, b, 2, 3)
	state(t, b, 2, 80, true, false)
	// Silence alone never suspends, however low the score.
	for range 30 {
		b.Silent(0)
	}
	state(t, b, 0, 40, false, false)
	dissent(t, b, 0, 5)
	state(t, b, 0, 30, true, false)
	// Two of five rest: no third one may.
	dissent(t, b, 1, 5)
	dissent(t, b, 1, 5)
	state(t, b, 1, 80, false, false)
	if l := b.May(); !slices.Equal(l, []int{1, 3, 4}) {
		t.Error(l)
	}
	if at, is := b.Due(); at != 13 || !is {
		t.Error(at, is)
	}
	if l := b.Back(20); !slices.Equal(l, []int{0, 2}) {
		t.Error(l)
	}
	state(t, b, 0, 90, false, true)
	state(t, b, 2, 90, false, true)
	// Its score is below the limit already, so its next dissent suspends it, now that enough are left.
	dissent(t, b, 1, 21)
	state(t, b, 1, 70, true, false)
	// One that is on trial is suspended again, and is on trial no more.
	dissent(t, b, 0, 22)
	state(t, b, 0, 80, true, false)
	if l := b.Back(31); !slices.Equal(l, []int{1}) {
		t.Error(l)
	}
	if l := b.Back(math.MaxInt64); !slices.Equal(l, []int{0}) {
		t.Error(l)
	}
}

func TestP19_5LimitAtMost(t *testing.T) {
	b := fresh(t, 3, 100, 10)
	dissent(t, b, 1, 0)
	state(t, b, 1, 90, true, false)
	if l := b.Back(10); !slices.Equal(l, []int{1}) {
		t.Error(l)
	}
	state(t, b, 1, 100, false, false)
}

func TestP19_6Trial(t *testing.T) {
	for _, x := range [][2]int{{50, 60}, {90, 100}, {91, 100}, {99, 100}, {1, 11}} {
		b := fresh(t, 3, x[0], 10)
		for !b.Rests(0) {
			dissent(t, b, 0, 0)
		}
		b.Back(10)
		state(t, b, 0, x[0], false, true)
		b.Silent(0) // a lesser score does not end it
		low := max(0, x[0]-2)
		state(t, b, 0, low, false, true)
		for s := low + 1; s < x[1]; s++ {
			b.Agree(0)
			state(t, b, 0, s, false, true)
		}
		b.Agree(0)
		state(t, b, 0, x[1], false, false)
		// Once it has ended, it does not begin again below the bound.
		b.Silent(0)
		state(t, b, 0, x[1]-2, false, false)
	}
}

func TestP19_7NoExtension(t *testing.T) {
	b := fresh(t, 3, 95, 10)
	dissent(t, b, 0, 4)
	dissent(t, b, 0, 9)
	dissent(t, b, 0, 13)
	state(t, b, 0, 70, true, false)
	counts(t, b, 0, [3]int{0, 3, 0})
	b.Agree(0)
	b.Silent(0)
	state(t, b, 0, 69, true, false)
	if at, is := b.Due(); at != 14 || !is {
		t.Error(at, is)
	}
	for range 40 {
		b.Agree(0)
	}
	state(t, b, 0, 100, true, false)
	if l := b.Back(13); len(l) != 0 {
		t.Error(l)
	}
	if l := b.Back(14); !slices.Equal(l, []int{0}) {
		t.Error(l)
	}
	state(t, b, 0, 95, false, true)
}

func TestP19_3Random(t *testing.T) {
	r := rand.New(rand.NewSource(19))
	for range 100 {
		ups := 1 + 2*r.Intn(5)
		limit := 1 + r.Intn(100)
		b := fresh(t, ups, limit, 1+r.Intn(20))
		now := int64(0)
		for range 300 {
			u := r.Intn(ups)
			before := b.Copy()
			act := r.Intn(5)
			switch act {
			case 0:
				b.Agree(u)
			case 1:
				b.Silent(u)
			case 2, 3:
				dissent(t, b, u, now)
			default:
				now += int64(r.Intn(5))
				due, is := b.Due()
				l := b.Back(now)
				if (len(l) > 0) != (is && due <= now) || !slices.IsSorted(l) {
					t.Error(l, due, now)
				}
			}
			if len(b.May()) < ups/2+1 {
				t.Error("too few may be asked")
			}
			checkStep(t, before, b, u, act, limit)
		}
	}
}

// checkStep is P19.4 to P19.6 for one step.
func checkStep(t *testing.T, was, is *repute.Book, u, act, limit int) {
	t.Helper()
	for i := range is.Len() {
		s, s0 := is.Score(i), was.Score(i)
		if s < 0 || s > 100 || is.Trial(i) && (is.Rests(i) || s >= min(limit+10, 100)) {
			t.Error("bounds", i, s)
		}
		if act > 3 {
			if is.Rests(i) && !was.Rests(i) || !is.Rests(i) && was.Rests(i) && s != limit {
				t.Error("back", i)
			}
			continue
		}
		if i != u && (s != s0 || is.Rests(i) != was.Rests(i) || is.Trial(i) != was.Trial(i)) {
			t.Error("another one has changed", i)
		}
		if i == u && (act == 0 && s < s0 || act > 0 && s > s0) {
			t.Error("score", act, s0, s)
		}
		if is.Rests(i) && !was.Rests(i) && (i != u || act < 2 || s >= limit) || was.Rests(i) && !is.Rests(i) {
			t.Error("suspension", i)
		}
		if is.Trial(i) && !was.Trial(i) {
			t.Error("trial", i)
		}
	}
}

func TestP19_2Copy(t *testing.T) {
	b := fresh(t, 3, 95, 10)
	c := b.Copy()
	dissent(t, c, 0, 0)
	state(t, b, 0, 100, false, false)
	state(t, c, 0, 90, true, false)
	b.Silent(0)
	state(t, c, 0, 90, true, false)
	if l := b.May(); len(l) == 3 {
		l[0] = 7
	}
	if l := b.May(); !slices.Equal(l, []int{0, 1, 2}) {
		t.Error(l)
	}
}
