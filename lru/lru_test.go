package lru_test

import (
	"math"
	"math/rand"
	"slices"
	"testing"

	"hustings/api"
	"hustings/lru"
)

func fresh(t *testing.T, n int) *lru.List {
	t.Helper()
	l, e := lru.New(n)
	if e != api.OK || l == nil {
		t.Fatal(n, e)
	}
	return l
}

func use(t *testing.T, l *lru.List, slots ...int) {
	t.Helper()
	for _, s := range slots {
		if e := l.Use(s); e != api.OK {
			t.Error(s, e)
		}
	}
}

func TestP15_1Example(t *testing.T) {
	l := fresh(t, 4)
	use(t, l, 2, 0, 2)
	if got := l.Row(); !slices.Equal(got, []int{0, 2}) {
		t.Error(got)
	}
	if at, is := l.Oldest(); at != 0 || !is {
		t.Error(at, is)
	}
	if at, is := l.Newest(); at != 2 || !is {
		t.Error(at, is)
	}
	if !l.Drop(0) || !slices.Equal(l.Row(), []int{2}) || l.Drop(0) || l.Use(4) != api.ErrArg {
		t.Error(l.Row())
	}
}

func TestP15_1New(t *testing.T) {
	for _, n := range []int{-1, 257, math.MinInt, math.MaxInt} {
		if l, e := lru.New(n); l != nil || e != api.ErrArg {
			t.Error(n, e)
		}
	}
	for _, n := range []int{0, 1, 2, 255, 256} {
		l := fresh(t, n)
		checkEmpty(t, l)
		for _, at := range []int{-1, n, n + 1, math.MinInt, math.MaxInt} {
			if l.Use(at) != api.ErrArg || l.Drop(at) || l.Has(at) {
				t.Error(n, at)
			}
		}
		checkEmpty(t, l)
		var want []int
		for i := n - 1; i >= 0; i-- {
			if l.Has(i) || l.Drop(i) {
				t.Error("in the list without being used", i)
			}
			want = append(want, i)
			use(t, l, i)
		}
		if !slices.Equal(l.Row(), want) || l.Len() != n {
			t.Error(n, l.Row())
		}
	}
}

func checkEmpty(t *testing.T, l *lru.List) {
	t.Helper()
	at, is := l.Oldest()
	at2, is2 := l.Newest()
	if at != 0 || is || at2 != 0 || is2 || len(l.Row()) != 0 || l.Len() != 0 {
		t.Error("not empty")
	}
}

func TestP15_1ZeroAndNil(t *testing.T) {
	var zero lru.List
	checkEmpty(t, &zero)
	if zero.Use(0) != api.ErrArg || zero.Drop(0) || zero.Has(0) {
		t.Error("a zero list has no slots")
	}
	checkEmpty(t, zero.Copy())
	var none *lru.List
	checkEmpty(t, none)
	for _, at := range []int{-1, 0, 300} {
		if none.Use(at) != api.ErrNil || none.Drop(at) || none.Has(at) {
			t.Error("nil")
		}
	}
	if none.Copy() != nil {
		t.Error("copy of nil")
	}
}

// check compares a list with the order that it should have.
func check(t *testing.T, l *lru.List, want []int, n int) {
	t.Helper()
	if got := l.Row(); !slices.Equal(got, want) || l.Len() != len(want) {
		t.Errorf("%v, not %v", got, want)
	}
	for at := range n {
		if l.Has(at) != slices.Contains(want, at) {
			t.Error("has", at)
		}
	}
	if len(want) == 0 {
		checkEmpty(t, l)
		return
	}
	first, is := l.Oldest()
	last, is2 := l.Newest()
	if first != want[0] || last != want[len(want)-1] || !is || !is2 {
		t.Error(first, last, want)
	}
}

func without(row []int, at int) []int {
	return slices.DeleteFunc(slices.Clone(row), func(x int) bool { return x == at })
}

func TestP15_3to5Random(t *testing.T) {
	r := rand.New(rand.NewSource(15))
	for _, n := range []int{1, 2, 3, 7, 256} {
		l := fresh(t, n)
		var want []int
		for range 600 {
			at := r.Intn(n)
			if r.Intn(3) == 0 {
				was := slices.Contains(want, at)
				if l.Drop(at) != was || l.Drop(at) {
					t.Error("drop", at)
				}
				want = without(want, at)
			} else {
				if !slices.Contains(want, at) {
					use(t, l, at)
					if !l.Drop(at) {
						t.Error("drop", at)
					}
					check(t, l, want, n)
				}
				use(t, l, at)
				want = append(without(want, at), at)
			}
			check(t, l, want, n)
		}
	}
}

func TestP15_6Independence(t *testing.T) {
	l := fresh(t, 5)
	use(t, l, 3, 1, 4)
	c := l.Copy()
	use(t, c, 3, 0)
	c.Drop(1)
	check(t, l, []int{3, 1, 4}, 5)
	check(t, c, []int{4, 3, 0}, 5)
	use(t, l, 2)
	l.Drop(4)
	check(t, c, []int{4, 3, 0}, 5)
	row := l.Row()
	row[0] = 9
	check(t, l, []int{3, 1, 2}, 5)
}
