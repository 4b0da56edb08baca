package cache_test

import (
	"fmt"
	"math"
	"math/rand"
	"slices"
	"testing"

	"hustings/api"
	"hustings/cache"
	"hustings/verdict"
)

const ex = "\x02ex\x00"

func q(n string) api.Question { return api.Question{Name: n, Type: api.A, Class: api.IN} }

func label(i int) string { return fmt.Sprintf("\x03%03d\x00", i) }

func v(data string) api.Verdict {
	return api.Verdict{Code: 3, Sets: []api.Set{{Name: ex, Type: 1, Class: 1, TTL: 4, Data: []string{data, "b"}}}, Soa: []api.Set{{Name: "\x00", Type: 6, Data: []string{"c"}}}}
}

func fresh(t *testing.T, n int) *cache.Cache {
	t.Helper()
	c, e := cache.New(n, 1, 2)
	if e != api.OK || c == nil {
		t.Fatal(e)
	}
	return c
}

func keep(t *testing.T, c *cache.Cache, n, data string, life, now int64) {
	t.Helper()
	if e := c.Keep(q(n), v(data), life, now); e != api.OK {
		t.Error(n, e)
	}
}

// find checks what is found; left 0 stands for nothing.
func find(t *testing.T, c *cache.Cache, n string, now int64, data string, left int64) {
	t.Helper()
	got, l, is := c.Find(q(n), now)
	want := api.Verdict{}
	if left > 0 {
		want = v(data)
	}
	if !verdict.Same(got, want) || l != left || is != (left > 0) {
		t.Errorf("%q at %d: %v %d %v, not %q %d", n, now, got, l, is, data, left)
	}
}

func row(t *testing.T, c *cache.Cache, want ...string) {
	t.Helper()
	var l []string
	for _, x := range c.Row() {
		if x.Type != api.A || x.Class != api.IN {
			t.Error(x)
		}
		l = append(l, x.Name)
	}
	if !slices.Equal(l, want) || c.Len() != len(want) {
		t.Errorf("%q, not %q", l, want)
	}
}

func TestP16_1Example(t *testing.T) {
	c := fresh(t, 2)
	keep(t, c, ex, "x", 10, 0)
	keep(t, c, "\x01a\x00", "a", 10, 1)
	find(t, c, "\x02EX\x00", 4, "x", 6)
	keep(t, c, "\x01b\x00", "b", 10, 5)
	row(t, c, ex, "\x01b\x00")
	find(t, c, "\x01a\x00", 5, "", 0)
	find(t, c, ex, 9, "x", 1)
	find(t, c, ex, 10, "", 0)
	find(t, c, "\x01b\x00", 10, "b", 5)
}

func TestP16_1New(t *testing.T) {
	for _, n := range []int{-1, 257, math.MinInt, math.MaxInt} {
		if c, e := cache.New(n, 0, 0); c != nil || e != api.ErrArg {
			t.Error(n, e)
		}
	}
	for _, n := range []int{1, 2, 255, 256} {
		c := fresh(t, n)
		for i := range n + 3 {
			keep(t, c, label(i), "x", 10, 0)
		}
		if c.Len() != n || c.Row()[0].Name != label(3) {
			t.Error(n, c.Len())
		}
	}
}

func TestP16_1KeepErrors(t *testing.T) {
	c := fresh(t, 2)
	keep(t, c, ex, "x", 10, 0)
	for _, n := range []string{"", "ex", "\x01", "\x00\x00"} {
		if e := c.Keep(q(n), v("x"), 10, 50); e != api.ErrArg {
			t.Errorf("%q: %v", n, e)
		}
	}
	for _, life := range []int64{0, -1, math.MinInt64} {
		if e := c.Keep(q(ex), v("y"), life, 50); e != api.ErrArg {
			t.Error(life, e)
		}
	}
	// None of these had a tick.
	find(t, c, ex, 1, "x", 9)
	keep(t, c, ex, "x", 1, 1)
	find(t, c, ex, 1, "x", 1)
}

func TestP16_1Replace(t *testing.T) {
	c := fresh(t, 2)
	keep(t, c, ex, "x", 10, 0)
	keep(t, c, "\x01a\x00", "a", 10, 0)
	keep(t, c, "\x02eX\x00", "y", 3, 4)
	row(t, c, "\x01a\x00", ex)
	if at, is := c.Due(); at != 7 || !is {
		t.Error(at, is)
	}
	find(t, c, ex, 6, "y", 1)
	keep(t, c, ex, "z", 20, 6)
	find(t, c, ex, 7, "z", 19)
	if c.Expire(10) != 1 {
		t.Error("a.")
	}
	find(t, c, ex, 25, "z", 1)
	row(t, c, ex)
	find(t, c, ex, 26, "", 0)
}

func TestP16_1NoCapacity(t *testing.T) {
	var zero cache.Cache
	for _, c := range []*cache.Cache{fresh(t, 0), &zero} {
		keep(t, c, ex, "x", 10, 0)
		find(t, c, ex, 0, "", 0)
		row(t, c)
		if at, is := c.Due(); at != 0 || is || c.Expire(5) != 0 {
			t.Error(at, is)
		}
		if e := c.Keep(q("bad"), v("x"), 10, 0); e != api.ErrArg {
			t.Error(e)
		}
		if e := c.Keep(q(ex), v("x"), 0, 0); e != api.ErrArg {
			t.Error(e)
		}
		d := c.Copy()
		keep(t, d, ex, "x", 10, 0)
		row(t, d)
	}
}

func TestP16_2Nil(t *testing.T) {
	var c *cache.Cache
	if c.Keep(q(ex), v("x"), 1, 0) != api.ErrNil || c.Keep(q("bad"), v("x"), 0, 0) != api.ErrNil || c.Expire(3) != 0 || c.Len() != 0 || len(c.Row()) != 0 || c.Copy() != nil {
		t.Error("nil")
	}
	find(t, c, ex, 0, "", 0)
	if at, is := c.Due(); at != 0 || is {
		t.Error(at, is)
	}
}

func TestP16_2DueAndExpire(t *testing.T) {
	c := fresh(t, 4)
	if at, is := c.Due(); at != 0 || is {
		t.Error(at, is)
	}
	keep(t, c, "\x01a\x00", "a", 5, 2)
	keep(t, c, "\x01b\x00", "b", 3, 3)
	keep(t, c, "\x01c\x00", "c", 3, 3)
	keep(t, c, "\x01d\x00", "d", 9, 3)
	if at, is := c.Due(); at != 6 || !is {
		t.Error(at, is)
	}
	if n := c.Expire(5); n != 0 {
		t.Error(n)
	}
	if n := c.Expire(6); n != 2 {
		t.Error(n)
	}
	row(t, c, "\x01a\x00", "\x01d\x00")
	if n := c.Expire(100); n != 2 || c.Len() != 0 {
		t.Error(n)
	}
	if at, is := c.Due(); at != 0 || is {
		t.Error(at, is)
	}
}

func TestP16_2Ticks(t *testing.T) {
	c := fresh(t, 4)
	keep(t, c, "\x01a\x00", "a", 10, 20)
	// Ticks do not go backwards.
	keep(t, c, "\x01b\x00", "b", 10, 5)
	keep(t, c, "\x01c\x00", "c", 10, math.MinInt64)
	find(t, c, "\x01b\x00", 0, "b", 10)
	find(t, c, "\x01c\x00", 29, "c", 1)
	find(t, c, "\x01b\x00", -1, "b", 1)
	if c.Expire(28) != 0 || c.Expire(30) != 3 {
		t.Error("expire")
	}
	// A negative tick is the first one.
	c = fresh(t, 4)
	keep(t, c, ex, "x", 10, -7)
	find(t, c, ex, 0, "x", 10)
	// Above MaxTicks they stand still.
	keep(t, c, ex, "x", math.MaxInt64, math.MaxInt64)
	if at, is := c.Due(); at != 2*api.MaxTicks || !is {
		t.Error(at, is)
	}
	find(t, c, ex, math.MaxInt64, "x", api.MaxTicks)
	keep(t, c, "\x01a\x00", "a", 1, api.MaxTicks)
	find(t, c, "\x01a\x00", math.MaxInt64, "a", 1)
	if c.Expire(math.MaxInt64) != 0 {
		t.Error("no clock reaches that")
	}
	// Life above MaxTicks counts as that.
	c = fresh(t, 1)
	keep(t, c, ex, "x", api.MaxTicks+1, 3)
	if at, is := c.Due(); at != api.MaxTicks+3 || !is {
		t.Error(at, is)
	}
	// A Find that finds nothing has a tick, too, also one for bytes that are no name.
	c = fresh(t, 2)
	keep(t, c, ex, "x", 10, 0)
	find(t, c, "bad", 9, "", 0)
	find(t, c, ex, 0, "x", 1)
	find(t, c, "\x01z\x00", 10, "", 0)
	row(t, c)
}

func TestP16_4Eviction(t *testing.T) {
	c := fresh(t, 3)
	for _, n := range []string{"\x01a\x00", "\x01b\x00", "\x01c\x00"} {
		keep(t, c, n, n, 10, 0)
	}
	find(t, c, "\x01a\x00", 0, "\x01a\x00", 10)
	keep(t, c, "\x01b\x00", "again", 10, 0)
	keep(t, c, "\x01d\x00", "d", 10, 0)
	row(t, c, "\x01a\x00", "\x01b\x00", "\x01d\x00")
	// What has expired makes room first.
	keep(t, c, "\x01b\x00", "short", 1, 0)
	keep(t, c, "\x01e\x00", "e", 10, 1)
	row(t, c, "\x01a\x00", "\x01d\x00", "\x01e\x00")
	// Expire, Row, Len, Due do not count as use.
	c.Expire(2)
	c.Due()
	keep(t, c, "\x01f\x00", "f", 10, 2)
	row(t, c, "\x01d\x00", "\x01e\x00", "\x01f\x00")
}

func TestP16_6SameQuestion(t *testing.T) {
	c := fresh(t, 9)
	for i, x := range []api.Question{{Name: ex, Type: 1, Class: 1}, {Name: ex, Type: 2, Class: 1}, {Name: ex, Type: 1, Class: 2}, {Name: ex, Type: 256, Class: 1}, {Name: ex, Type: 1, Class: 256}, {Name: "\x01x" + ex, Type: 1, Class: 1}} {
		if e := c.Keep(x, v(fmt.Sprint(i)), 10, 0); e != api.OK || c.Len() != i+1 {
			t.Error(x, e)
		}
	}
	for i, x := range []api.Question{{Name: "\x02EX\x00", Type: 1, Class: 1}, {Name: "\x02Ex\x00", Type: 2, Class: 1}, {Name: "\x02eX\x00", Type: 1, Class: 2}, {Name: ex, Type: 256, Class: 1}, {Name: ex, Type: 1, Class: 256}, {Name: "\x01X" + ex, Type: 1, Class: 1}} {
		if got, _, is := c.Find(x, 0); !is || !verdict.Same(got, v(fmt.Sprint(i))) {
			t.Error(x, got)
		}
	}
	if _, _, is := c.Find(api.Question{Name: ex, Type: 2, Class: 2}, 0); is {
		t.Error("another question")
	}
}

// kept is one verdict of the model.
type kept struct {
	n, data string
	until   int64
}

// TestP16_3to7Random compares a cache with a list, least recently used one first.
func TestP16_3to7Random(t *testing.T) {
	r := rand.New(rand.NewSource(16))
	for range 150 {
		n := r.Intn(5)
		c := fresh(t, n)
		other, _ := cache.New(n, r.Uint64(), r.Uint64())
		var l []kept
		now := int64(0)
		for step := range 60 {
			now += int64(r.Intn(3))
			was := len(l)
			l = slices.DeleteFunc(l, func(k kept) bool { return k.until <= now })
			x := string([]byte{1, byte('a' + r.Intn(6)), 0})
			at := slices.IndexFunc(l, func(k kept) bool { return k.n == x })
			switch r.Intn(3) {
			case 0:
				k := kept{x, fmt.Sprint(step), now + 1 + int64(r.Intn(9))}
				if at >= 0 {
					l = slices.Delete(l, at, at+1)
				} else if len(l) == n && n > 0 {
					l = l[1:]
				}
				if n > 0 {
					l = append(l, k)
				}
				keep(t, c, x, k.data, k.until-now, now)
				keep(t, other, x, k.data, k.until-now, now)
			case 1:
				k := kept{until: now}
				if at >= 0 {
					k = l[at]
					l = append(slices.Delete(l, at, at+1), k)
				}
				find(t, c, x, now, k.data, k.until-now)
				find(t, other, x, now, k.data, k.until-now)
			default:
				if got := c.Expire(now); got != was-len(l) {
					t.Error(got, was, len(l))
				}
				other.Expire(now)
			}
			var want []string
			due := int64(math.MaxInt64)
			for _, k := range l {
				want = append(want, k.n)
				due = min(due, k.until)
			}
			row(t, c, want...)
			row(t, other, want...)
			if at, is := c.Due(); is != (len(l) > 0) || is && at != due {
				t.Error(at, is, due)
			}
			if c.Len() > n {
				t.Error(c.Len())
			}
		}
	}
}

func TestP16_8Independence(t *testing.T) {
	c := fresh(t, 2)
	keep(t, c, ex, "x", 10, 0)
	keep(t, c, "\x01a\x00", "a", 10, 0)
	d := c.Copy()
	find(t, d, ex, 3, "x", 7)
	keep(t, d, "\x01b\x00", "b", 10, 3)
	keep(t, d, ex, "other", 10, 3)
	row(t, c, ex, "\x01a\x00")
	find(t, c, ex, 0, "x", 10)
	c.Expire(50)
	row(t, c)
	row(t, d, "\x01b\x00", ex)
	find(t, d, ex, 3, "other", 10)
}

func TestP16_1NewMemory(t *testing.T) {
	c := fresh(t, 2)
	x := v("x")
	if e := c.Keep(q(ex), x, 10, 0); e != api.OK {
		t.Error(e)
	}
	x.Sets[0].Data[0], x.Soa[0].Name = "changed", "changed"
	got, _, _ := c.Find(q(ex), 0)
	if !verdict.Same(got, v("x")) {
		t.Error(got)
	}
	got.Sets[0].Data[0], got.Soa[0].Data[0] = "changed", "changed"
	find(t, c, ex, 0, "x", 10)
	c.Row()[0].Name = "changed"
	row(t, c, ex)
}
