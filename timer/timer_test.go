package timer_test

import (
	"math"
	"math/rand"
	"slices"
	"testing"

	"hustings/api"
	"hustings/timer"
)

func filled(t *testing.T, pairs ...int64) *timer.Timers {
	t.Helper()
	q := timer.New()
	for i := 0; i < len(pairs); i += 2 {
		if e := q.Put(int(pairs[i]), pairs[i+1]); e != api.OK {
			t.Error(e)
		}
	}
	return q
}

func TestP14_1Examples(t *testing.T) {
	q := filled(t, 1, 5, 2, 3, 3, 5)
	if id, at, is := q.Next(); id != 2 || at != 3 || !is {
		t.Error(id, at, is)
	}
	if got := q.Due(5); !slices.Equal(got, []int{2, 1, 3}) || q.Len() != 0 {
		t.Error(got)
	}
	if got := filled(t, 1, 5, 2, 5, 1, 5).Due(9); !slices.Equal(got, []int{2, 1}) {
		t.Error(got)
	}
	if q.Drop(7) || timer.New().Drop(0) {
		t.Error("dropped an item that is not there")
	}
}

func TestP14_1PutDropAt(t *testing.T) {
	q := filled(t, 1, 5, 2, 3, math.MinInt, math.MaxInt64, math.MaxInt, math.MinInt64, 0, 0, -1, -7)
	for id, want := range map[int]int64{1: 5, 2: 3, math.MinInt: math.MaxInt64, math.MaxInt: math.MinInt64, 0: 0, -1: -7} {
		if at, is := q.At(id); at != want || !is {
			t.Error(id, at, is)
		}
	}
	if at, is := q.At(3); at != 0 || is {
		t.Error(at, is)
	}
	q.Put(1, 2)
	if at, is := q.At(1); at != 2 || !is || q.Len() != 6 {
		t.Error(at, is, q.Len())
	}
	if !q.Drop(2) || q.Drop(2) || q.Len() != 5 {
		t.Error("drop")
	}
	if _, is := q.At(2); is {
		t.Error("there after it was dropped")
	}
	if got := q.Due(2); !slices.Equal(got, []int{math.MaxInt, -1, 0, 1}) {
		t.Error(got)
	}
	if got := q.Due(5); len(got) != 0 {
		t.Error("due at its old tick", got)
	}
	if got := q.Due(math.MaxInt64); !slices.Equal(got, []int{math.MinInt}) {
		t.Error(got)
	}
	if id, at, is := q.Next(); id != 0 || at != 0 || is {
		t.Error(id, at, is)
	}
}

func TestP14_2ZeroAndNil(t *testing.T) {
	var zero timer.Timers
	if zero.Len() != 0 || zero.Drop(0) || len(zero.Due(9)) != 0 || zero.Copy().Len() != 0 {
		t.Error("a zero queue is empty")
	}
	if _, _, is := zero.Next(); is {
		t.Error("next of none")
	}
	if e := zero.Put(4, 4); e != api.OK || zero.Len() != 1 || !slices.Equal(zero.Due(4), []int{4}) {
		t.Error(e)
	}
	var none *timer.Timers
	if none.Put(1, 1) != api.ErrNil || none.Drop(1) || len(none.Due(9)) != 0 || none.Len() != 0 || none.Copy() != nil {
		t.Error("nil")
	}
	if at, is := none.At(1); at != 0 || is {
		t.Error(at, is)
	}
	if id, at, is := none.Next(); id != 0 || at != 0 || is {
		t.Error(id, at, is)
	}
}

// model is the queue as a list in the order of Put.
type model struct {
	ids []int
	ats []int64
}

func (m *model) drop(id int) bool {
	i := slices.Index(m.ids, id)
	if i < 0 {
		return false
	}
	m.ids, m.ats = slices.Delete(m.ids, i, i+1), slices.Delete(m.ats, i, i+1)
	return true
}

func (m *model) put(id int, at int64) {
	m.drop(id)
	m.ids, m.ats = append(m.ids, id), append(m.ats, at)
}

// first is the index of the first item, -1 for none.
func (m *model) first() int {
	best := -1
	for i, at := range m.ats {
		if best < 0 || at < m.ats[best] {
			best = i
		}
	}
	return best
}

func (m *model) due(now int64) []int {
	var l []int
	for i := m.first(); i >= 0 && m.ats[i] <= now; i = m.first() {
		l = append(l, m.ids[i])
		m.drop(m.ids[i])
	}
	return l
}

func TestP14_3to6Random(t *testing.T) {
	r := rand.New(rand.NewSource(14))
	for range 200 {
		q, m := timer.New(), &model{}
		for range 60 {
			id, at := r.Intn(12), int64(r.Intn(8))
			switch r.Intn(8) {
			case 0:
				if q.Drop(id) != m.drop(id) {
					t.Error("drop")
				}
			case 1:
				if got, want := q.Due(at-1), m.due(at-1); !slices.Equal(got, want) {
					t.Error(got, want)
				}
			default:
				q.Put(id, at)
				m.put(id, at)
			}
			id, at, is := q.Next()
			if i := m.first(); is != (i >= 0) || is && (id != m.ids[i] || at != m.ats[i]) {
				t.Error("next", id, at, is)
			}
			if q.Len() != len(m.ids) {
				t.Error("len", q.Len(), len(m.ids))
			}
		}
		// P14.4: step by step.
		step := q.Copy()
		var l []int
		for now := range int64(9) {
			l = append(l, step.Due(now)...)
		}
		if got := q.Due(8); !slices.Equal(got, l) || !slices.Equal(got, m.due(8)) || q.Len() != 0 {
			t.Error(got, l)
		}
	}
}

func TestP14_5Again(t *testing.T) {
	q := filled(t, 1, 5, 2, 5, 3, 5, 4, 6)
	q.Put(1, 5)
	q.Put(9, 5)
	if !q.Drop(9) || q.Len() != 4 {
		t.Error("drop")
	}
	if got := q.Due(6); !slices.Equal(got, []int{2, 3, 1, 4}) {
		t.Error(got)
	}
	// Many of one tick stay in their order, whatever is dropped between.
	q = timer.New()
	var want []int
	for i := range 100 {
		q.Put(i, 1)
		if i%3 > 0 {
			want = append(want, i)
		}
	}
	for i := 0; i < 100; i += 3 {
		q.Drop(i)
	}
	if got := q.Due(1); !slices.Equal(got, want) {
		t.Error(got)
	}
}

func TestP14_7Independence(t *testing.T) {
	q := filled(t, 1, 5, 2, 3, 3, 5)
	c := q.Copy()
	c.Drop(1)
	c.Put(2, 9)
	c.Put(4, 1)
	if got := q.Copy().Due(9); !slices.Equal(got, []int{2, 1, 3}) {
		t.Error(got)
	}
	q.Due(9)
	q.Put(3, 4)
	if got := c.Due(9); !slices.Equal(got, []int{4, 3, 2}) {
		t.Error(got)
	}
	if got := q.Due(9); !slices.Equal(got, []int{3}) {
		t.Error(got)
	}
}
