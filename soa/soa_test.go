package soa_test

import (
	"math/rand"
	"slices"
	"strings"
	"testing"

	"hustings/api"
	"hustings/name"
	"hustings/rrset"
	"hustings/soa"
)

const ex = "\x02ex\x00"

func datum(last string) string { return "\x00\x00" + strings.Repeat("\x00", 16) + last }

func set(n string, ttl uint32, last string) api.Set {
	return api.Set{Name: n, Type: api.SOA, Class: api.IN, TTL: ttl, Data: []string{datum(last)}}
}

func TestP10_1Example(t *testing.T) {
	l := []api.Set{set("\x00", 7, "\x00\x00\x00\x01"), set(ex, 9, "\x00\x00\x00\x05")}
	for n, want := range map[string]int{"\x01a" + ex: 1, ex: 1, "\x01A\x02EX\x00": 1, "\x03com\x00": 0, "\x00": 0, "\x01x\x02xx\x00": 0} {
		for _, order := range [][]api.Set{l, {l[1], l[0]}} {
			s, is, e := soa.Find(order, n, api.IN)
			if !is || e != api.OK || !rrset.Same(s, l[want]) {
				t.Errorf("%q: %v %v %v", n, s, is, e)
			}
		}
	}
	if time := soa.Time(l[1]); time != 5 {
		t.Error(time)
	}
	s, _, _ := soa.Find(l, ex, api.IN)
	if s.Data[0] = "x"; l[1].Data[0] == "x" {
		t.Error("shared memory")
	}
}

func TestP10_1None(t *testing.T) {
	other := set(ex, 9, "\x00\x00\x00\x05")
	other.Type = api.NS
	chaos := set(ex, 9, "\x00\x00\x00\x05")
	chaos.Class = 3
	inner := set("\x01a"+ex, 9, "\x00\x00\x00\x05")
	bad := set("ex", 9, "\x00\x00\x00\x05")
	for _, l := range [][]api.Set{nil, {other}, {chaos}, {inner}, {bad}, {other, chaos, inner, bad}} {
		if s, is, e := soa.Find(l, ex, api.IN); is || e != api.OK || !rrset.Same(s, api.Set{}) {
			t.Errorf("%v: %v %v %v", l, s, is, e)
		}
	}
	root := set("\x00", 9, "\x00\x00\x00\x05")
	for _, n := range []string{"", "ex", "\x01", "\x00\x00"} {
		if s, is, e := soa.Find([]api.Set{root}, n, api.IN); is || e != api.OK || !rrset.Same(s, api.Set{}) {
			t.Errorf("%q: %v", n, s)
		}
	}
	if _, is, _ := soa.Find([]api.Set{chaos}, ex, 3); !is {
		t.Error("class 3")
	}
	// A set without a type and a class, as a zero one, matches nothing.
	if _, is, _ := soa.Find([]api.Set{{}}, ex, 0); is {
		t.Error("zero set")
	}
}

func TestP10_1Errors(t *testing.T) {
	two := api.Set{Name: ex, Type: api.SOA, Class: api.IN, Data: []string{datum("\x00\x00\x00\x01"), datum("\x00\x00\x00\x02")}}
	none := api.Set{Name: ex, Type: api.SOA, Class: api.IN}
	root := set("\x00", 9, "\x00\x00\x00\x05")
	for _, x := range []api.Set{two, none} {
		for _, l := range [][]api.Set{{x}, {root, x}, {x, root}, {x, set(ex, 1, "\x00\x00\x00\x05")}} {
			if s, is, e := soa.Find(l, "\x01a"+ex, api.IN); is || e != api.ErrForm || !rrset.Same(s, api.Set{}) {
				t.Errorf("%v: %v %v", l, s, e)
			}
		}
		// One that is not found does not matter.
		if s, is, e := soa.Find([]api.Set{x, root}, "\x03com\x00", api.IN); !is || e != api.OK || s.Name != "\x00" {
			t.Error(s, e)
		}
		if s, is, e := soa.Find([]api.Set{set(ex, 1, "\x00\x00\x00\x05"), x}, ex, api.IN); !is || e != api.OK || s.TTL != 1 {
			t.Error("the first one of several", s, e)
		}
	}
}

func TestP10_2Time(t *testing.T) {
	for _, c := range []struct {
		ttl  uint32
		last string
		want uint32
	}{
		{9, "\x00\x00\x00\x05", 5}, {5, "\x00\x00\x00\x09", 5}, {9, "\xFF\xFF\xFF\xFF", 0}, {9, "\x80\x00\x00\x00", 0}, {1<<31 - 1, "\x7F\xFF\xFF\xFF", 1<<31 - 1},
		{1 << 31, "\x00\x00\x00\x05", 0}, {1<<32 - 1, "\x00\x00\x00\x05", 0}, {0, "\x00\x00\x00\x05", 0}, {5, "\x00\x00\x00\x00", 0}, {1 << 30, "\x01\x02\x03\x04", 0x01020304},
	} {
		if got := soa.Time(set(ex, c.ttl, c.last)); got != c.want {
			t.Errorf("%v: %d", c, got)
		}
	}
	s := set(ex, 9, "\x00\x00\x00\x05")
	s.Type = api.NS
	if got := soa.Time(s); got != 0 {
		t.Error(got)
	}
	s = set(ex, 9, "\x00\x00\x00\x05")
	s.Data = append(s.Data, s.Data[0])
	if got := soa.Time(s); got != 0 {
		t.Error(got)
	}
	for _, data := range []string{"", "\x00\x00\x00\x05", datum("\x00\x00\x05"), datum("\x00\x00\x00\x00\x05"), "\xC0\x00" + datum("\x00\x00\x00\x05")} {
		s.Data = []string{data}
		if got := soa.Time(s); got != 0 {
			t.Errorf("%q: %d", data, got)
		}
	}
	s.Data = nil
	if got := soa.Time(s); got != 0 {
		t.Error(got)
	}
	s = set("bad", 9, "\x00\x00\x00\x05")
	if got := soa.Time(s); got != 5 {
		t.Error("the name does not matter", got)
	}
}

func TestP10_3to5Random(t *testing.T) {
	r := rand.New(rand.NewSource(10))
	names := []string{"\x00", ex, "\x02EX\x00", "\x01a" + ex, "\x01b\x01a" + ex, "\x01b" + ex, "\x03com\x00"}
	random := func() api.Set {
		s := set(names[r.Intn(len(names))], uint32(r.Intn(9)), "\x00\x00\x00\x05")
		if r.Intn(5) == 0 {
			s.Type = api.NS
		}
		if r.Intn(5) == 0 {
			s.Class = 2
		}
		return s
	}
	labels := func(s api.Set) int { return len(name.Labels(s.Name)) }
	for range 2000 {
		var l []api.Set
		for range r.Intn(6) {
			l = append(l, random())
		}
		n := names[r.Intn(len(names))]
		match := func(s api.Set) bool { return s.Type == api.SOA && s.Class == 1 && name.Within(n, s.Name) }
		s, is, e := soa.Find(l, n, 1)
		if e != api.OK || is != slices.ContainsFunc(l, match) {
			t.Errorf("%q in %v: %v %v", n, l, s, is)
		}
		for _, x := range l {
			if is && match(x) && labels(x) > labels(s) || is && !match(s) {
				t.Errorf("%q in %v: %v", n, l, s)
			}
		}
		// P10.4: one more set.
		more := random()
		more.TTL = 99
		s2, is2, _ := soa.Find(append(slices.Clone(l), more), n, 1)
		want, wantIs := s, is
		if match(more) && (!is || labels(more) > labels(s)) {
			want, wantIs = more, true
		}
		if !rrset.Same(s2, want) || is2 != wantIs {
			t.Errorf("%q in %v and %v: %v", n, l, more, s2)
		}
		// P10.5: inner names.
		if up, has := name.Parent(n); has {
			s3, is3, _ := soa.Find(l, up, 1)
			if is3 && (!is || labels(s) < labels(s3)) {
				t.Errorf("%q in %v: %v", n, l, s3)
			}
		}
	}
}

func TestP10_6OtherParts(t *testing.T) {
	for _, data := range []string{datum("\x00\x00\x00\x05"), ex + "\x01x" + ex + "\xFF\xFF\xFF\xFF" + strings.Repeat("\xFF", 12) + "\x00\x00\x00\x05", "\x02EX\x00\x00" + strings.Repeat("\x01", 16) + "\x00\x00\x00\x05"} {
		s := set(ex, 9, "\x00\x00\x00\x05")
		s.Data[0] = data
		if got := soa.Time(s); got != 5 {
			t.Errorf("%q: %d", data, got)
		}
	}
}
