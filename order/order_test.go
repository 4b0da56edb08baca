package order_test

import (
	"math/rand"
	"slices"
	"testing"

	"hustings/api"
	"hustings/draw"
	"hustings/order"
	"hustings/repute"
)

func fresh(t *testing.T, ups, limit int) *repute.Book {
	t.Helper()
	b, e := repute.New(ups, limit, 10)
	if e != api.OK {
		t.Fatal(e)
	}
	return b
}

func zeros(n int) *draw.Tape { return draw.New(0, make([]uint64, n)) }

func TestP20_1Example(t *testing.T) {
	b := fresh(t, 3, 50)
	tape := zeros(2)
	if got := order.Order(b, tape); !slices.Equal(got, []int{1, 2, 0}) || tape.Used() != 2 {
		t.Error(got)
	}
	b.Dissent(1, 0)
	if got := order.Order(b, zeros(2)); !slices.Equal(got, []int{2, 0, 1}) {
		t.Error(got)
	}
	b.Silent(2)
	if got := order.Order(b, zeros(2)); !slices.Equal(got, []int{0, 2, 1}) {
		t.Error(got)
	}
}

func TestP20_1Suspended(t *testing.T) {
	b := fresh(t, 5, 95)
	b.Dissent(1, 0)
	b.Dissent(3, 0)
	// 0 2 4 by the draws 0, 0: 2 4 0.
	tape := zeros(2)
	if got := order.Order(b, tape); !slices.Equal(got, []int{2, 4, 0}) || tape.Used() != 2 {
		t.Error(got)
	}
	b.Back(10)
	for range 3 {
		b.Silent(0) // 94, below those on trial, with 95
		b.Silent(4)
	}
	// 2 with 100, then 0 and 4 with 94, then 1 and 3 on trial; the shuffle is 1 2 3 4 0.
	if got := order.Order(b, zeros(4)); !slices.Equal(got, []int{2, 4, 0, 1, 3}) {
		t.Error(got)
	}
	b.Agree(3)
	if got := order.Order(b, zeros(4)); !slices.Equal(got, []int{2, 4, 0, 3, 1}) {
		t.Error(got)
	}
}

func TestP20_1None(t *testing.T) {
	tape := zeros(2)
	if got := order.Order(nil, tape); len(got) != 0 || tape.Used() != 0 {
		t.Error(got)
	}
	if got := order.Order(fresh(t, 3, 50), nil); len(got) != 0 {
		t.Error(got)
	}
	if got := order.Order(nil, nil); len(got) != 0 {
		t.Error(got)
	}
	if got := order.Order(&repute.Book{}, tape); len(got) != 0 || tape.Used() != 0 {
		t.Error(got)
	}
	one := fresh(t, 1, 50)
	if got := order.Order(one, tape); !slices.Equal(got, []int{0}) || tape.Used() != 0 {
		t.Error(got)
	}
	if got := order.Order(one, &draw.Tape{}); !slices.Equal(got, []int{0}) {
		t.Error(got)
	}
}

// snapshot is all that can be asked of a book.
func snapshot(b *repute.Book) []int {
	var l []int
	flag := func(is bool) int {
		if is {
			return 1
		}
		return 0
	}
	for u := range b.Len() {
		x, y, z := b.Counts(u)
		l = append(l, b.Score(u), x, y, z, flag(b.Rests(u)), flag(b.Trial(u)))
	}
	return l
}

func TestP20_2to6Random(t *testing.T) {
	r := rand.New(rand.NewSource(20))
	for range 500 {
		ups := 1 + 2*r.Intn(5)
		b := fresh(t, ups, 1+r.Intn(100))
		for range r.Intn(25) {
			u := r.Intn(ups)
			switch r.Intn(4) {
			case 0:
				b.Agree(u)
			case 1:
				b.Silent(u)
			case 2:
				b.Dissent(u, int64(r.Intn(5)))
			default:
				b.Back(int64(r.Intn(20)))
			}
		}
		tape := draw.New(r.Uint64(), nil)
		again, shuffle := tape.Copy(), tape.Copy()
		before := snapshot(b)
		l := order.Order(b, tape)
		may := b.May()
		// P20.2: each one, and nothing else has changed.
		sorted := slices.Clone(l)
		slices.Sort(sorted)
		if !slices.Equal(sorted, may) || tape.Used() != len(may)-1 || !slices.Equal(before, snapshot(b)) {
			t.Errorf("%v of %v", l, may)
		}
		// P20.6: the same draws, the same order.
		if got := order.Order(b, again); !slices.Equal(got, l) {
			t.Errorf("%v, not %v", got, l)
		}
		place := map[int]int{}
		for i, x := range shuffle.Shuffle(len(may)) {
			place[may[x]] = i
		}
		// P20.3 to P20.5: in order, equal ones as the shuffle left them.
		for i := 1; i < len(l); i++ {
			x, y := l[i-1], l[i]
			if b.Trial(x) && !b.Trial(y) || b.Trial(x) == b.Trial(y) && (b.Score(x) < b.Score(y) || b.Score(x) == b.Score(y) && place[x] > place[y]) {
				t.Errorf("%v: %d before %d", l, x, y)
			}
		}
	}
}
