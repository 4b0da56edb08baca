package pend_test

import (
	"math"
	"math/rand"
	"testing"

	"hustings/api"
	"hustings/draw"
	"hustings/pend"
)

func fresh(t *testing.T, ups int) *pend.Table {
	t.Helper()
	table, e := pend.New(ups)
	if e != api.OK || table == nil {
		t.Fatal(e)
	}
	return table
}

func take(t *testing.T, table *pend.Table, u, slot int, tape *draw.Tape, want uint16) {
	t.Helper()
	used := tape.Used()
	if id, e := table.Draw(u, slot, tape); id != want || e != api.OK || tape.Used() != used+1 {
		t.Errorf("%d %d: %d %v, not %d", u, slot, id, e, want)
	}
}

func find(t *testing.T, table *pend.Table, u int, id uint16, slot int, is bool) {
	t.Helper()
	if got, has := table.Find(u, id); got != slot || has != is {
		t.Errorf("find %d %d: %d %v", u, id, got, has)
	}
}

func TestP29_1Example(t *testing.T) {
	table := fresh(t, 2)
	tape := draw.New(0, []uint64{5, 65541, 65535, 131071, 5, 5})
	for i, want := range []uint16{5, 6, 65535, 0} {
		take(t, table, 0, i+1, tape, want)
	}
	find(t, table, 0, 6, 2, true)
	find(t, table, 1, 6, 0, false)
	find(t, table, 0, 7, 0, false)
	if table.Len(0) != 4 || table.Len(1) != 0 {
		t.Error(table.Len(0))
	}
	if n := table.Free(2); n != 1 {
		t.Error(n)
	}
	find(t, table, 0, 6, 0, false)
	take(t, table, 0, 9, tape, 6)
	take(t, table, 1, 9, tape, 5)
	find(t, table, 0, 5, 1, true)
	find(t, table, 1, 5, 9, true)
}

func TestP29_1Errors(t *testing.T) {
	for _, ups := range []int{0, -1, 10, math.MinInt, math.MaxInt} {
		if table, e := pend.New(ups); table != nil || e != api.ErrArg {
			t.Error(ups, e)
		}
	}
	tape := draw.New(0, nil)
	for ups := 1; ups <= 9; ups++ {
		table := fresh(t, ups)
		if _, e := table.Draw(ups-1, 31, tape.Copy()); e != api.OK || table.Len(ups-1) != 1 {
			t.Error(e)
		}
		for _, x := range [][2]int{{ups, 0}, {-1, 0}, {0, 32}, {0, -1}, {math.MaxInt, 0}, {math.MinInt, 0}, {0, math.MaxInt}, {0, math.MinInt}} {
			if id, e := table.Draw(x[0], x[1], tape); id != 0 || e != api.ErrArg {
				t.Error(x, e)
			}
			if id, e := table.Draw(x[0], x[1], nil); id != 0 || e != api.ErrNil {
				t.Error(x, e)
			}
		}
		for _, u := range []int{ups, -1, math.MaxInt, math.MinInt} {
			find(t, table, u, 0, 0, false)
			if table.Len(u) != 0 || table.FreeAt(31, u) != 0 {
				t.Error(u)
			}
		}
		if table.Free(-1) != 0 || table.Free(99) != 0 || table.Len(ups-1) != 1 {
			t.Error("free")
		}
	}
	if tape.Used() != 0 {
		t.Error("drawn with an error")
	}
}

func TestP29_1ZeroAndNil(t *testing.T) {
	var zero pend.Table
	var none *pend.Table
	tape := draw.New(0, nil)
	if _, e := zero.Draw(0, 0, tape); e != api.ErrArg {
		t.Error(e)
	}
	if _, e := none.Draw(-1, 0, tape); e != api.ErrNil {
		t.Error(e)
	}
	for _, table := range []*pend.Table{&zero, none, zero.Copy()} {
		find(t, table, 0, 0, 0, false)
		if table.Len(0) != 0 || table.Free(0) != 0 || table.FreeAt(0, 0) != 0 || tape.Used() != 0 {
			t.Error("something of nothing")
		}
	}
	if none.Copy() != nil || zero.Copy() == nil {
		t.Error("copy")
	}
	table := fresh(t, 1)
	take(t, table, 0, 0, &draw.Tape{}, 0xCDAF)
}

func TestP29_1Full(t *testing.T) {
	table := fresh(t, 2)
	for i := range 50 {
		take(t, table, 1, i%32, draw.New(0, []uint64{65500}), uint16(65500+i))
	}
	// All others, each by its own draw.
	for id := range 65536 {
		if _, is := table.Find(1, uint16(id)); !is {
			take(t, table, 1, 7, draw.New(0, []uint64{uint64(id) | 1<<40}), uint16(id))
		}
	}
	if table.Len(1) != 65536 {
		t.Error(table.Len(1))
	}
	tape := draw.New(0, nil)
	if id, e := table.Draw(1, 0, tape); id != 0 || e != api.ErrFull || tape.Used() != 0 {
		t.Error(id, e)
	}
	take(t, table, 0, 0, draw.New(0, []uint64{3}), 3)
	if table.FreeAt(40, 1) != 0 || table.FreeAt(0, 1) == 0 {
		t.Error("free at")
	}
	if _, e := table.Draw(1, 0, tape); e != api.OK {
		t.Error(e)
	}
}

func TestP29_2to5Random(t *testing.T) {
	r := rand.New(rand.NewSource(29))
	for range 100 {
		table := fresh(t, 3)
		out := [3]map[uint16]int{{}, {}, {}}
		for range 80 {
			u, slot := r.Intn(3), r.Intn(4)
			switch r.Intn(6) {
			case 0:
				n := 0
				for x := range out {
					for id, s := range out[x] {
						if s == slot {
							delete(out[x], id)
							n++
						}
					}
				}
				if got := table.Free(slot); got != n {
					t.Error(got, n)
				}
			case 1:
				n := 0
				for id, s := range out[u] {
					if s == slot {
						delete(out[u], id)
						n++
					}
				}
				if got := table.FreeAt(slot, u); got != n {
					t.Error(got, n)
				}
			default:
				d := uint64(r.Intn(6)) - 3
				id := uint16(d)
				for {
					if _, is := out[u][id]; !is {
						break
					}
					id++
				}
				take(t, table, u, slot, draw.New(0, []uint64{d | uint64(r.Intn(9))<<20}), id)
				out[u][id] = slot
			}
			for u := range 3 {
				if table.Len(u) != len(out[u]) {
					t.Error(table.Len(u), len(out[u]))
				}
				for id := -60; id < 60; id++ {
					slot, is := out[u][uint16(id)]
					find(t, table, u, uint16(id), slot, is)
				}
			}
		}
	}
}

func TestP29_6Independence(t *testing.T) {
	table := fresh(t, 2)
	take(t, table, 0, 1, draw.New(0, []uint64{5}), 5)
	c := table.Copy()
	take(t, c, 0, 2, draw.New(0, []uint64{5}), 6)
	take(t, c, 1, 2, draw.New(0, []uint64{5}), 5)
	c.Free(1)
	find(t, table, 0, 5, 1, true)
	find(t, table, 0, 6, 0, false)
	find(t, table, 1, 5, 0, false)
	table.Free(1)
	take(t, table, 0, 3, draw.New(0, []uint64{6}), 6)
	find(t, c, 0, 6, 2, true)
}
