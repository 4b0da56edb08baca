package flight_test

import (
	"fmt"
	"math"
	"math/rand"
	"slices"
	"testing"

	"hustings/api"
	"hustings/flight"
)

const ex = "\x02ex\x00"

func q(n string, kind uint16) api.Question {
	return api.Question{Name: n, Type: kind, Class: api.IN}
}

func fresh(t *testing.T, flights, waiters int) *flight.Table {
	t.Helper()
	table, e := flight.New(flights, waiters)
	if e != api.OK || table == nil {
		t.Fatal(e)
	}
	return table
}

func begin(t *testing.T, table *flight.Table, x api.Question, want int) {
	t.Helper()
	if at, e := table.Begin(x); at != want || e != api.OK {
		t.Errorf("%v: %d %v, not %d", x, at, e, want)
	}
}

func join(t *testing.T, table *flight.Table, at, client int, want api.Errno) {
	t.Helper()
	if e := table.Join(at, flight.Waiter{Client: client, Data: fmt.Sprint(client)}); e != want {
		t.Errorf("join %d by %d: %v, not %v", at, client, e, want)
	}
}

func end(t *testing.T, table *flight.Table, at int, clients ...int) {
	t.Helper()
	l, e := table.End(at)
	var got []int
	for _, w := range l {
		if w.Data != fmt.Sprint(w.Client) {
			t.Error(w)
		}
		got = append(got, w.Client)
	}
	if e != api.OK || !slices.Equal(got, clients) {
		t.Errorf("end of %d: %v %v, not %v", at, got, e, clients)
	}
}

func row(t *testing.T, table *flight.Table, want ...int) {
	t.Helper()
	if l := table.Row(); !slices.Equal(l, want) || table.Len() != len(want) {
		t.Errorf("row %v, not %v", l, want)
	}
}

func TestP27_1Example(t *testing.T) {
	table := fresh(t, 2, 1)
	begin(t, table, q(ex, api.A), 0)
	if at, e := table.Begin(q("\x02EX\x00", api.A)); at != 0 || e != api.ErrHave {
		t.Error(at, e)
	}
	begin(t, table, q(ex, api.AAAA), 1)
	if at, e := table.Begin(q(ex, api.NS)); at != 0 || e != api.ErrFull {
		t.Error(at, e)
	}
	if _, e := table.Begin(q("\x02eX\x00", api.AAAA)); e != api.ErrHave {
		t.Error("have comes before full", e)
	}
	join(t, table, 0, 7, api.OK)
	join(t, table, 0, 7, api.ErrFull)
	end(t, table, 0, 7)
	row(t, table, 1)
	begin(t, table, q(ex, api.NS), 0)
	row(t, table, 1, 0)
}

func TestP27_1New(t *testing.T) {
	for _, x := range [][2]int{{0, 1}, {1, 0}, {33, 1}, {1, 17}, {-1, 1}, {1, -1}, {math.MaxInt, 1}, {1, math.MinInt}} {
		if table, e := flight.New(x[0], x[1]); table != nil || e != api.ErrArg {
			t.Error(x, e)
		}
	}
	table := fresh(t, 32, 16)
	for i := range 32 {
		begin(t, table, q(ex, uint16(i)), i)
		for c := range 16 {
			join(t, table, i, c, api.OK)
		}
		join(t, table, i, 16, api.ErrFull)
	}
	if _, e := table.Begin(q(ex, 99)); e != api.ErrFull {
		t.Error(e)
	}
	one := fresh(t, 1, 1)
	begin(t, one, q(ex, 1), 0)
	if _, e := one.Begin(q(ex, 2)); e != api.ErrFull {
		t.Error(e)
	}
}

func TestP27_1Errors(t *testing.T) {
	table := fresh(t, 2, 1)
	for _, n := range []string{"", "ex", "\x02ex"} {
		if at, e := table.Begin(q(n, 1)); at != 0 || e != api.ErrArg {
			t.Errorf("%q: %v", n, e)
		}
	}
	for _, at := range []int{-1, 0, 1, 2, 32, math.MinInt, math.MaxInt} {
		join(t, table, at, -1, api.ErrNone)
		if l, e := table.End(at); len(l) != 0 || e != api.ErrNone {
			t.Error(at, e)
		}
		if x, is := table.Question(at); is || x != (api.Question{}) || table.Waits(at) != 0 {
			t.Error(at, x)
		}
	}
	begin(t, table, q(ex, 1), 0)
	for _, client := range []int{-1, 65536, math.MinInt, math.MaxInt} {
		join(t, table, 0, client, api.ErrArg)
		join(t, table, 1, client, api.ErrNone)
	}
	join(t, table, 0, 65535, api.OK)
	join(t, table, 0, -1, api.ErrArg) // before it is full
	join(t, table, 0, 0, api.ErrFull)
	if table.Waits(0) != 1 || table.Waits(1) != 0 {
		t.Error(table.Waits(0))
	}
}

func TestP27_2ZeroAndNil(t *testing.T) {
	var zero flight.Table
	var none *flight.Table
	for i, table := range []*flight.Table{&zero, none} {
		full, noSlot := []api.Errno{api.ErrFull, api.ErrNil}[i], []api.Errno{api.ErrNone, api.ErrNil}[i]
		if at, e := table.Begin(q(ex, 1)); at != 0 || e != full {
			t.Error(at, e)
		}
		join(t, table, 0, 1, noSlot)
		if l, e := table.End(0); len(l) != 0 || e != noSlot {
			t.Error(e)
		}
		if at, is := table.Find(q(ex, 1)); at != 0 || is {
			t.Error(at, is)
		}
		if x, is := table.Question(0); is || x != (api.Question{}) || table.Waits(0) != 0 {
			t.Error(x)
		}
		row(t, table)
	}
	if _, e := none.Begin(q("bad", 1)); e != api.ErrNil {
		t.Error(e)
	}
	if _, e := zero.Begin(q("bad", 1)); e != api.ErrArg {
		t.Error(e)
	}
	if none.Copy() != nil || zero.Copy().Len() != 0 {
		t.Error("copy")
	}
}

func TestP27_2Find(t *testing.T) {
	table := fresh(t, 9, 3)
	begin(t, table, q("\x02EX\x00", 1), 0)
	begin(t, table, api.Question{Name: ex, Type: 1, Class: 2}, 1)
	begin(t, table, q("\x01a"+ex, 1), 2)
	for x, want := range map[api.Question]int{q(ex, 1): 0, q("\x02eX\x00", 1): 0, {Name: "\x02Ex\x00", Type: 1, Class: 2}: 1, q("\x01A\x02ex\x00", 1): 2} {
		if at, is := table.Find(x); at != want || !is {
			t.Error(x, at, is)
		}
	}
	for _, x := range []api.Question{q(ex, 2), {Name: ex, Type: 1, Class: 3}, q("\x00", 1), q("", 1), q("bad", 1)} {
		if at, is := table.Find(x); at != 0 || is {
			t.Error(x, at, is)
		}
	}
	if x, is := table.Question(0); x != q(ex, 1) || !is {
		t.Error(x, is)
	}
	join(t, table, 1, 5, api.OK)
	join(t, table, 1, 4, api.OK)
	if table.Waits(1) != 2 || table.Waits(0) != 0 {
		t.Error(table.Waits(1))
	}
	end(t, table, 1, 5, 4)
	if _, is := table.Find(api.Question{Name: ex, Type: 1, Class: 2}); is {
		t.Error("found after its end")
	}
	if _, is := table.Question(1); is {
		t.Error("there after its end")
	}
}

// run is one question of the model.
type run struct {
	x       api.Question
	at      int
	clients []int
}

func TestP27_3to6Random(t *testing.T) {
	r := rand.New(rand.NewSource(27))
	for range 200 {
		flights, waiters := 1+r.Intn(4), 1+r.Intn(4)
		table := fresh(t, flights, waiters)
		var runs []run
		for step := range 80 {
			x := q([]string{ex, "\x02EX\x00", "\x00"}[r.Intn(3)], uint16(r.Intn(3)))
			low := x
			if low.Name != "\x00" {
				low.Name = ex
			}
			i := slices.IndexFunc(runs, func(k run) bool { return k.x == low })
			switch r.Intn(3) {
			case 0:
				at, e := table.Begin(x)
				want := api.OK
				if i >= 0 {
					want = api.ErrHave
				} else if len(runs) == flights {
					want = api.ErrFull
				}
				free := 0
				for slices.ContainsFunc(runs, func(k run) bool { return k.at == free }) {
					free++
				}
				if e != want || e == api.OK && at != free || e != api.OK && at != 0 {
					t.Error(at, e, free, want)
				}
				if e == api.OK {
					runs = append(runs, run{x: low, at: at})
				}
			case 1:
				if i < 0 {
					continue
				}
				want := api.OK
				if len(runs[i].clients) == waiters {
					want = api.ErrFull
				} else {
					runs[i].clients = append(runs[i].clients, step)
				}
				join(t, table, runs[i].at, step, want)
			default:
				if i >= 0 && r.Intn(2) == 0 {
					end(t, table, runs[i].at, runs[i].clients...)
					runs = slices.Delete(runs, i, i+1)
				}
			}
			var ats []int
			for _, k := range runs {
				ats = append(ats, k.at)
				at, is := table.Find(k.x)
				if x, has := table.Question(k.at); at != k.at || !is || !has || x != k.x || table.Waits(at) != len(k.clients) {
					t.Error(k, at, x)
				}
			}
			row(t, table, ats...)
		}
	}
}

func TestP27_7Independence(t *testing.T) {
	table := fresh(t, 3, 2)
	begin(t, table, q(ex, 1), 0)
	begin(t, table, q(ex, 2), 1)
	join(t, table, 0, 7, api.OK)
	c := table.Copy()
	join(t, c, 0, 8, api.OK)
	end(t, c, 1)
	begin(t, c, q(ex, 3), 1)
	row(t, table, 0, 1)
	if x, _ := table.Question(1); x.Type != 2 || table.Waits(0) != 1 {
		t.Error(x)
	}
	if _, is := table.Find(q(ex, 3)); is {
		t.Error("found")
	}
	join(t, table, 0, 9, api.OK)
	end(t, c, 0, 7, 8)
	end(t, table, 0, 7, 9)
	row(t, c, 1)
	l := table.Row()
	l[0] = 9
	row(t, table, 1)
	// What End returned is not overwritten by those who wait next.
	table = fresh(t, 1, 2)
	begin(t, table, q(ex, 1), 0)
	join(t, table, 0, 1, api.OK)
	old, _ := table.End(0)
	begin(t, table, q(ex, 1), 0)
	join(t, table, 0, 2, api.OK)
	if old[0].Client != 1 {
		t.Error(old)
	}
}
