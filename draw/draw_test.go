package draw_test

import (
	"math"
	"math/rand"
	"slices"
	"testing"

	"hustings/draw"
)

func TestP12_1Next(t *testing.T) {
	tape := draw.New(0, []uint64{7, 9})
	for i, want := range []uint64{7, 9, 0xE220A8397B1DCDAF, 0x6E789E6AA1B965F4} {
		if tape.Used() != i {
			t.Error(tape.Used())
		}
		if got := tape.Next(); got != want {
			t.Errorf("%d: %X, not %X", i, got, want)
		}
	}
	if tape.Used() != 4 {
		t.Error(tape.Used())
	}
}

// splitmix is the continuation of a tape, spelt out once more.
func splitmix(seed uint64, count int) []uint64 {
	var l []uint64
	for range count {
		seed += 0x9E3779B97F4A7C15
		z := seed
		z = (z ^ (z >> 30)) * 0xBF58476D1CE4E5B9
		z = (z ^ (z >> 27)) * 0x94D049BB133111EB
		l = append(l, z^(z>>31))
	}
	return l
}

func take(t *draw.Tape, n int) []uint64 {
	var l []uint64
	for range n {
		l = append(l, t.Next())
	}
	return l
}

func TestP12_1Zero(t *testing.T) {
	var zero draw.Tape
	if zero.Used() != 0 {
		t.Error(zero.Used())
	}
	c := zero.Copy()
	if got := take(&zero, 5); !slices.Equal(got, splitmix(0, 5)) || zero.Used() != 5 {
		t.Errorf("%X", got)
	}
	if got := take(c, 3); !slices.Equal(got, splitmix(0, 3)) {
		t.Errorf("%X", got)
	}
	if got := take(draw.New(0, nil), 5); !slices.Equal(got, splitmix(0, 5)) {
		t.Errorf("%X", got)
	}
}

func TestP12_1Nil(t *testing.T) {
	var none *draw.Tape
	if none.Next() != 0 || none.Below(5) != 0 || len(none.Shuffle(3)) != 0 || none.Used() != 0 || none.Copy() != nil {
		t.Error("nil")
	}
}

func TestP12_1NumbersKept(t *testing.T) {
	first := []uint64{1, 2, 3}
	tape := draw.New(5, first)
	first[1] = 9
	if got := take(tape, 3); !slices.Equal(got, []uint64{1, 2, 3}) {
		t.Error(got)
	}
}

func TestP12_2Below(t *testing.T) {
	for _, c := range []struct {
		draw uint64
		n    int
		want int
	}{{47, 10, 7}, {47, 1, 0}, {47, 48, 47}, {47, 47, 0}, {math.MaxUint64, 10, 5}, {math.MaxUint64, math.MaxInt, 1}, {1 << 63, 3, 2}, {0, 7, 0}} {
		tape := draw.New(0, []uint64{c.draw})
		if got := tape.Below(c.n); got != c.want || tape.Used() != 1 {
			t.Errorf("%v: %d", c, got)
		}
	}
	tape := draw.New(0, []uint64{47})
	for _, n := range []int{0, -1, math.MinInt} {
		if tape.Below(n) != 0 || tape.Used() != 0 {
			t.Error(n)
		}
	}
}

func TestP12_2Shuffle(t *testing.T) {
	for _, c := range []struct {
		draws []uint64
		n     int
		want  []int
	}{
		{[]uint64{0, 0}, 3, []int{1, 2, 0}}, {[]uint64{2, 1}, 3, []int{0, 1, 2}}, {[]uint64{1, 0}, 3, []int{2, 0, 1}}, {[]uint64{4, 3}, 3, []int{0, 2, 1}},
		{[]uint64{5, 5}, 3, []int{0, 1, 2}}, {[]uint64{0}, 2, []int{1, 0}}, {[]uint64{0}, 1, []int{0}}, {[]uint64{0, 0, 0, 0}, 5, []int{1, 2, 3, 4, 0}},
	} {
		tape := draw.New(0, c.draws)
		if got := tape.Shuffle(c.n); !slices.Equal(got, c.want) || tape.Used() != c.n-1 {
			t.Errorf("%v: %v", c, got)
		}
	}
	tape := draw.New(0, nil)
	for _, n := range []int{0, -1, 257, math.MaxInt, math.MinInt} {
		if got := tape.Shuffle(n); len(got) != 0 || tape.Used() != 0 {
			t.Errorf("%d: %v", n, got)
		}
	}
}

func TestP12_3Tape(t *testing.T) {
	r := rand.New(rand.NewSource(12))
	for range 100 {
		seed := r.Uint64()
		var first []uint64
		for range r.Intn(6) {
			first = append(first, r.Uint64())
		}
		want := append(slices.Clone(first), splitmix(seed, 20)...)
		if got := take(draw.New(seed, first), len(want)); !slices.Equal(got, want) {
			t.Errorf("%X: %X, not %X", seed, got, want)
		}
	}
}

func TestP12_4Below(t *testing.T) {
	r := rand.New(rand.NewSource(124))
	tape := draw.New(3, []uint64{1, 2, math.MaxUint64})
	for range 300 {
		n := 1 + r.Intn(1<<uint(1+r.Intn(40)))
		next := tape.Copy().Next()
		was := tape.Used()
		if got := tape.Below(n); got != int(next%uint64(n)) || got < 0 || got >= n || tape.Used() != was+1 {
			t.Errorf("%d: %d", n, got)
		}
	}
	if tape.Below(1) != 0 {
		t.Error("below 1")
	}
}

func TestP12_5Permutation(t *testing.T) {
	for _, n := range []int{1, 2, 3, 9, 100, 255, 256} {
		tape := draw.New(uint64(n), nil)
		l := tape.Shuffle(n)
		if tape.Used() != n-1 {
			t.Error(tape.Used())
		}
		byHand := make([]int, n)
		for i := range byHand {
			byHand[i] = i
		}
		draws := splitmix(uint64(n), n)
		for i, k := n-1, 0; i > 0; i, k = i-1, k+1 {
			j := int(draws[k] % uint64(i+1))
			byHand[i], byHand[j] = byHand[j], byHand[i]
		}
		if !slices.Equal(l, byHand) {
			t.Errorf("%d: %v, not %v", n, l, byHand)
		}
		slices.Sort(l)
		for i, x := range l {
			if i != x {
				t.Errorf("%d: %v", n, l)
				break
			}
		}
		var same []uint64
		for i := n - 1; i > 0; i-- {
			same = append(same, uint64(i))
		}
		if l := draw.New(0, same).Shuffle(n); !slices.IsSorted(l) || len(l) != n {
			t.Errorf("%d: %v", n, l)
		}
	}
}

func TestP12_6Seeds(t *testing.T) {
	r := rand.New(rand.NewSource(126))
	for range 50 {
		seed := r.Uint64()
		for _, other := range []uint64{seed + 1, seed ^ 1<<63, ^seed, seed + 1<<40} {
			a, b := take(draw.New(seed, nil), 20), take(draw.New(other, nil), 20)
			for i := range a {
				if a[i] == b[i] {
					t.Errorf("%X %X", seed, other)
				}
			}
		}
	}
}

func TestP12_7Independence(t *testing.T) {
	for used := range 6 {
		a := draw.New(9, []uint64{1, 2, 3})
		take(a, used)
		want := take(a.Copy(), 10)
		if a.Used() != used {
			t.Error("the copy used draws of the tape")
		}
		b := a.Copy()
		if b.Used() != used {
			t.Error(b.Used())
		}
		take(a, 4)
		if got := take(b, 10); !slices.Equal(got, want) {
			t.Errorf("%X, not %X", got, want)
		}
		if a.Used() != used+4 || b.Used() != used+10 {
			t.Error(a.Used(), b.Used())
		}
		l := b.Shuffle(3)
		if m := b.Shuffle(3); len(l) == 3 && len(m) == 3 {
			if m[0] = 77; l[0] == 77 {
				t.Error("shared memory")
			}
		}
	}
}
