package hedge_test

import (
	"math"
	"math/rand"
	"slices"
	"testing"

	"hustings/api"
	"hustings/hedge"
)

func fresh(t *testing.T, list []int, want, every, wait, tries int, now int64) *hedge.Plan {
	t.Helper()
	p, e := hedge.New(list, want, every, wait, tries, now)
	if e != api.OK || p == nil {
		t.Fatal(e)
	}
	return p
}

func tick(t *testing.T, p *hedge.Plan, now int64, gone, sends []int) {
	t.Helper()
	g, s := p.Tick(now)
	if !slices.Equal(g, gone) || !slices.Equal(s, sends) {
		t.Errorf("at %d: gone %v, sends %v, not %v %v", now, g, s, gone, sends)
	}
}

// due checks when something is due; -1 stands for never.
func due(t *testing.T, p *hedge.Plan, want int64) {
	t.Helper()
	at, is := p.Due()
	if !is {
		if at != 0 {
			t.Error(at)
		}
		at = -1
	}
	if at != want {
		t.Errorf("due %d, not %d", at, want)
	}
}

func TestP22_1Example(t *testing.T) {
	p := fresh(t, []int{4, 2, 7}, 2, 10, 15, 2, 100)
	if l := p.Begin(); !slices.Equal(l, []int{4, 2}) {
		t.Error(l)
	}
	due(t, p, 110)
	tick(t, p, 110, nil, []int{7})
	due(t, p, 115)
	tick(t, p, 115, nil, []int{4, 2})
	if !p.Close(2) || p.Close(2) || p.Open() != 2 {
		t.Error("close")
	}
	due(t, p, 125)
	tick(t, p, 125, nil, []int{7})
	tick(t, p, 130, []int{4}, nil)
	due(t, p, 140)
	tick(t, p, 140, []int{7}, nil)
	if p.Open() != 0 || p.Left() != 0 || p.Asked(7) != 2 || p.Asked(4) != 2 || p.Asked(2) != 2 || p.Asked(1) != 0 {
		t.Error(p.Open(), p.Asked(7))
	}
	due(t, p, -1)
}

func TestP22_1New(t *testing.T) {
	nine := []int{8, 7, 6, 5, 4, 3, 2, 1, 0}
	ok := func() ([]int, []int, int64) { return []int{0, 1}, []int{1, 1, 1, 1}, 0 }
	try := func(list []int, x []int, now int64, want api.Errno) {
		t.Helper()
		p, e := hedge.New(list, x[0], x[1], x[2], x[3], now)
		if e != want || (p != nil) != (want == api.OK) {
			t.Error(list, x, now, e)
		}
	}
	try(nine, []int{9, 1000, 1000, 4}, api.MaxTicks, api.OK)
	try(nil, []int{1, 1, 1, 1}, 0, api.OK)
	for _, l := range [][]int{append(slices.Clone(nine), 8), {9}, {-1}, {0, 0}, {1, 2, 1}, {math.MaxInt}, {math.MinInt}, make([]int, 10)} {
		_, x, now := ok()
		try(l, x, now, api.ErrArg)
	}
	for i, most := range []int{9, 1000, 1000, 4} {
		for n, want := range map[int]api.Errno{0: api.ErrArg, -1: api.ErrArg, 1: api.OK, most: api.OK, most + 1: api.ErrArg, math.MaxInt: api.ErrArg, math.MinInt: api.ErrArg} {
			l, x, now := ok()
			x[i] = n
			try(l, x, now, want)
		}
	}
	for now, want := range map[int64]api.Errno{-1: api.ErrArg, api.MaxTicks: api.OK, api.MaxTicks + 1: api.ErrArg, math.MinInt64: api.ErrArg, math.MaxInt64: api.ErrArg} {
		l, x, _ := ok()
		try(l, x, now, want)
	}
}

func TestP22_1Begin(t *testing.T) {
	list := []int{3, 1, 2}
	for want, l := range map[int][]int{1: {3}, 2: {3, 1}, 3: {3, 1, 2}, 4: {3, 1, 2}, 9: {3, 1, 2}} {
		p := fresh(t, list, want, 10, 5, 2, 7)
		due(t, p, -1)
		// Nothing happens before Begin, and no tick counts.
		tick(t, p, 500, nil, nil)
		if u, is := p.More(600); u != 0 || is || p.Open() != 0 || p.Left() != 3 || p.Close(3) {
			t.Error(u, is)
		}
		if got := p.Begin(); !slices.Equal(got, l) || p.Open() != len(l) || p.Left() != 3-len(l) {
			t.Error(want, got)
		}
		due(t, p, 12)
		if got := p.Begin(); len(got) != 0 || p.Open() != len(l) {
			t.Error("begun twice", got)
		}
		for _, u := range list {
			asked := 0
			if slices.Contains(l, u) {
				asked = 1
			}
			if p.Asked(u) != asked {
				t.Error(u, p.Asked(u))
			}
		}
	}
	p := fresh(t, nil, 2, 1, 1, 1, 0)
	if got := p.Begin(); len(got) != 0 {
		t.Error(got)
	}
	due(t, p, -1)
	tick(t, p, 9, nil, nil)
	// The list is not kept.
	p = fresh(t, list, 1, 10, 5, 2, 7)
	list[0] = 8
	if got := p.Begin(); !slices.Equal(got, []int{3}) {
		t.Error(got)
	}
}

func TestP22_1More(t *testing.T) {
	p := fresh(t, []int{5, 6, 7, 8}, 1, 10, 4, 1, 0)
	p.Begin()
	if u, is := p.More(3); u != 6 || !is || p.Open() != 2 || p.Left() != 2 || p.Asked(6) != 1 {
		t.Error(u, is)
	}
	tick(t, p, 4, []int{5}, nil)
	tick(t, p, 6, nil, nil)
	tick(t, p, 7, []int{6}, nil)
	// A More does not reach an interval.
	if u, is := p.More(10); u != 7 || !is {
		t.Error(u, is)
	}
	due(t, p, 11)
	tick(t, p, 10, nil, []int{8})
	// No one is left: the tick counts all the same.
	if u, is := p.More(20); u != 0 || is {
		t.Error(u, is)
	}
	due(t, p, 21)
	tick(t, p, 5, []int{7, 8}, nil)
	due(t, p, -1)
}

func TestP22_2Ticks(t *testing.T) {
	// Ticks below the latest one count as that.
	p := fresh(t, []int{0, 1, 2, 3, 4}, 1, 10, 7, 3, 100)
	p.Begin()
	tick(t, p, 50, nil, nil)
	tick(t, p, 106, nil, nil)
	tick(t, p, 107, nil, []int{0})
	tick(t, p, 3, nil, nil)
	due(t, p, 110)
	// Several intervals at once: one more is asked, and not again for any of them.
	tick(t, p, 135, nil, []int{0, 1})
	tick(t, p, 139, nil, nil)
	due(t, p, 140)
	tick(t, p, 140, nil, []int{2})
	tick(t, p, 142, []int{0}, []int{1})
	// Above MaxTicks they stand still.
	tick(t, p, math.MaxInt64, nil, []int{1, 2, 3})
	due(t, p, -1)
	tick(t, p, math.MaxInt64, nil, nil)
	if u, is := p.More(math.MaxInt64); u != 4 || !is {
		t.Error(u, is)
	}
	p = fresh(t, []int{0, 1}, 1, 10, 10, 1, api.MaxTicks-10)
	p.Begin()
	due(t, p, api.MaxTicks)
	p = fresh(t, []int{0, 1}, 1, 10, 10, 1, api.MaxTicks-9)
	p.Begin()
	due(t, p, -1)
}

func TestP22_3ZeroAndNil(t *testing.T) {
	var zero hedge.Plan
	var none *hedge.Plan
	for _, p := range []*hedge.Plan{&zero, none} {
		for range 2 {
			if len(p.Begin()) != 0 || p.Close(0) || p.Open() != 0 || p.Left() != 0 || p.Asked(0) != 0 {
				t.Error("something of nothing")
			}
			tick(t, p, 5, nil, nil)
			if u, is := p.More(5); u != 0 || is {
				t.Error(u, is)
			}
			due(t, p, -1)
		}
	}
	if none.Copy() != nil || zero.Copy() == nil || len(zero.Copy().Begin()) != 0 {
		t.Error("copy")
	}
}

// model is the plan by the words of the document, with maps.
type model struct {
	list               []int
	times              map[int]int
	last               map[int]int64
	open               map[int]bool
	every, wait, tries int
	begin, now         int64
	reached            map[int64]bool
}

func (m *model) ask(u int) int {
	m.times[u]++
	m.last[u], m.open[u] = m.now, true
	return u
}

func (m *model) next() []int {
	for _, u := range m.list {
		if m.times[u] == 0 {
			return []int{m.ask(u)}
		}
	}
	return nil
}

func (m *model) tick(now int64) (gone, sends []int) {
	m.now = max(m.now, now)
	for _, u := range m.list {
		if !m.open[u] || m.now-m.last[u] < int64(m.wait) {
			continue
		}
		if m.times[u] == m.tries {
			m.open[u] = false
			gone = append(gone, u)
		} else {
			sends = append(sends, m.ask(u))
		}
	}
	news := false
	for k := int64(1); m.begin+k*int64(m.every) <= m.now; k++ {
		news = news || !m.reached[k]
		m.reached[k] = true
	}
	if news {
		sends = append(sends, m.next()...)
	}
	return gone, sends
}

func TestP22_2to8Random(t *testing.T) {
	r := rand.New(rand.NewSource(22))
	for range 400 {
		list := r.Perm(9)[:r.Intn(10)]
		want, every, wait, tries := 1+r.Intn(5), 1+r.Intn(9), 1+r.Intn(9), 1+r.Intn(4)
		begin := int64(r.Intn(30))
		p := fresh(t, list, want, every, wait, tries, begin)
		m := &model{list: list, times: map[int]int{}, last: map[int]int64{}, open: map[int]bool{}, every: every, wait: wait, tries: tries, begin: begin, now: begin, reached: map[int64]bool{}}
		var first []int
		for range want {
			first = append(first, m.next()...)
		}
		if got := p.Begin(); !slices.Equal(got, first) {
			t.Errorf("%v, not %v", got, first)
		}
		for range 40 {
			switch r.Intn(8) {
			case 0:
				u := r.Intn(9)
				if p.Close(u) != m.open[u] {
					t.Error("close", u)
				}
				m.open[u] = false
			case 1:
				now := m.now + int64(r.Intn(12)) - 3
				m.now = max(m.now, now)
				want := m.next()
				if u, is := p.More(now); is != (len(want) == 1) || is && u != want[0] {
					t.Error("more", u, is, want)
				}
			default:
				checkDue(t, p, m.now)
				now := m.now + int64(r.Intn(6)) - 1
				gone, sends := m.tick(now)
				tick(t, p, now, gone, sends)
			}
			open, left := 0, 0
			for _, u := range list {
				if m.open[u] {
					open++
				}
				if m.times[u] == 0 {
					left++
				}
				if p.Asked(u) != m.times[u] || p.Asked(u) > tries {
					t.Error("asked", u, p.Asked(u))
				}
			}
			if p.Open() != open || p.Left() != left {
				t.Error(p.Open(), open, p.Left(), left)
			}
		}
	}
}

// checkDue is P22.7: after the latest tick, nothing happens before Due, and something does at it.
func checkDue(t *testing.T, p *hedge.Plan, latest int64) {
	t.Helper()
	at, is := p.Due()
	if is && at <= latest {
		t.Error("due at", at, "after", latest)
	}
	before := at - 1
	if !is {
		before = api.MaxTicks
	}
	if before > latest {
		if gone, sends := p.Copy().Tick(before); len(gone)+len(sends) > 0 {
			t.Error("before it is due", at)
		}
	}
	if !is {
		return
	}
	if gone, sends := p.Copy().Tick(at); len(gone)+len(sends) == 0 {
		t.Error("nothing is due at", at)
	}
}

func TestP22_5and6(t *testing.T) {
	p := fresh(t, []int{6, 5, 4, 3, 2, 1}, 2, 3, 7, 3, 10)
	firstAsked, gone := map[int]int64{}, map[int]int64{}
	for _, u := range p.Begin() {
		firstAsked[u] = 10
	}
	for now := int64(11); now < 80; now++ {
		g, s := p.Tick(now)
		for _, u := range g {
			if gone[u] != 0 {
				t.Error("given up twice", u)
			}
			gone[u] = now
		}
		for _, u := range s {
			if p.Asked(u) == 1 {
				firstAsked[u] = now
			}
		}
	}
	for i, u := range []int{6, 5, 4, 3, 2, 1} {
		want := int64(10 + 3*max(0, i-1))
		if firstAsked[u] != want || gone[u] != want+21 {
			t.Error(u, firstAsked[u], gone[u])
		}
	}
}

func TestP22_9Independence(t *testing.T) {
	p := fresh(t, []int{1, 2, 3}, 1, 10, 4, 2, 0)
	p.Begin()
	c := p.Copy()
	c.Tick(4)
	c.More(5)
	c.Close(1)
	if p.Open() != 1 || p.Left() != 2 || p.Asked(1) != 1 {
		t.Error("the plan has changed")
	}
	tick(t, p, 4, nil, []int{1})
	p.Close(1)
	p.Tick(30)
	if c.Open() != 1 || c.Left() != 1 || c.Asked(2) != 1 {
		t.Error("the copy has changed")
	}
	q := fresh(t, []int{1, 2}, 1, 10, 4, 2, 0)
	q.Copy().Begin()
	if l := q.Begin(); !slices.Equal(l, []int{1}) {
		t.Error(l)
	}
}
