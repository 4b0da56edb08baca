package zone_test

import (
	"math/rand"
	"slices"
	"strings"
	"testing"

	"hustings/api"
	"hustings/name"
	"hustings/zone"
)

const ex = "\x02ex\x00"

var none = api.Zone{Name: "\x00", Policy: api.Strict}

func fresh(t *testing.T, l []api.Zone) *zone.Table {
	t.Helper()
	table, e := zone.New(l)
	if e != api.OK || table == nil {
		t.Fatal(l, e)
	}
	return table
}

func TestP18_1Example(t *testing.T) {
	l := []api.Zone{{Name: ex, Policy: api.Strict}, {Name: "\x01a" + ex, Policy: api.Union}}
	table := fresh(t, l)
	for n, want := range map[string]api.Zone{"\x01b" + ex: l[0], "\x01a" + ex: l[1], "\x01x\x01A" + ex: l[1], "\x03com\x00": none, ex: l[0], "\x00": none, "\x03aex\x00": none, "\x01a\x00": none} {
		if got := table.Find(n); got != want {
			t.Errorf("%q: %v", n, got)
		}
	}
	if table.Len() != 2 {
		t.Error(table.Len())
	}
}

func TestP18_1Errors(t *testing.T) {
	good := api.Zone{Name: ex, Policy: api.Refuse}
	for _, x := range []struct {
		l []api.Zone
		e api.Errno
	}{
		{[]api.Zone{good, good}, api.ErrHave}, {[]api.Zone{good, {Name: ex, Policy: api.Union}}, api.ErrHave},
		{[]api.Zone{{Name: "\x02Ex\x00", Policy: api.Strict}}, api.ErrForm}, {[]api.Zone{{Name: "ex", Policy: api.Strict}}, api.ErrForm}, {[]api.Zone{{Policy: api.Strict}}, api.ErrForm},
		{[]api.Zone{{Name: ex}}, api.ErrForm}, {[]api.Zone{{Name: ex, Policy: 5}}, api.ErrForm},
		{[]api.Zone{good, {Name: ex, Policy: 5}}, api.ErrForm}, {[]api.Zone{good, good, {Name: "ex"}}, api.ErrHave}, {[]api.Zone{good, {Name: "ex"}, good}, api.ErrForm},
		{slices.Repeat([]api.Zone{good}, 17), api.ErrLong}, {slices.Repeat([]api.Zone{{}}, 17), api.ErrLong}, {slices.Repeat([]api.Zone{good}, 16), api.ErrHave},
	} {
		if table, e := zone.New(x.l); table != nil || e != x.e {
			t.Errorf("%v: %v, not %v", x.l, e, x.e)
		}
	}
}

func TestP18_1Many(t *testing.T) {
	var l []api.Zone
	for i := range 16 {
		l = append(l, api.Zone{Name: "\x01" + string([]byte{'a' + byte(i)}) + ex, Policy: 1 + uint8(i%4), Trust: uint16(i) << 9})
	}
	table := fresh(t, l)
	if table.Len() != 16 {
		t.Error(table.Len())
	}
	for _, z := range l {
		if got := table.Find("\x01x" + z.Name); got != z {
			t.Error(got, z)
		}
	}
	// What is handed in is not kept.
	want := l[3]
	l[3].Policy = api.Refuse
	l[3].Name = "changed"
	if got := table.Find(want.Name); got != want {
		t.Error(got)
	}
}

func TestP18_2None(t *testing.T) {
	var zero zone.Table
	var nothing *zone.Table
	for _, table := range []*zone.Table{&zero, nothing, fresh(t, nil)} {
		if table.Len() != 0 {
			t.Error(table.Len())
		}
		for _, n := range []string{ex, "\x00", "", "bad"} {
			if got := table.Find(n); got != none {
				t.Errorf("%q: %v", n, got)
			}
		}
	}
	root := api.Zone{Name: "\x00", Policy: api.Trusted, Trust: 3}
	table := fresh(t, []api.Zone{root})
	for _, n := range []string{ex, "\x00", strings.Repeat("\x01a", 127) + "\x00"} {
		if got := table.Find(n); got != root {
			t.Errorf("%q: %v", n, got)
		}
	}
	for _, n := range []string{"", "bad", "\x00\x00", "\x01"} {
		if got := table.Find(n); got != none {
			t.Errorf("%q is no name: %v", n, got)
		}
	}
}

var names = []string{"\x00", ex, "\x01a" + ex, "\x01b\x01a" + ex, "\x01b" + ex, "\x03com\x00", "\x01a\x03com\x00", "\x01a\x00", "\x01c\x01b\x01a" + ex}

// find is the zone of a name by the definition.
func find(l []api.Zone, n string) (api.Zone, bool) {
	best, is := none, false
	for _, z := range l {
		if name.Within(n, z.Name) && (!is || len(name.Labels(z.Name)) > len(name.Labels(best.Name))) {
			best, is = z, true
		}
	}
	return best, is
}

func TestP18_3to7Random(t *testing.T) {
	r := rand.New(rand.NewSource(18))
	for range 300 {
		var l []api.Zone
		for _, i := range r.Perm(len(names))[:r.Intn(len(names))] {
			l = append(l, api.Zone{Name: names[i], Policy: 1 + uint8(r.Intn(4)), Trust: uint16(r.Intn(9))})
		}
		table := fresh(t, l)
		turned := slices.Clone(l)
		slices.Reverse(turned)
		other := fresh(t, turned)
		for _, n := range names {
			want, has := find(l, n)
			if got := table.Find(n); got != want || other.Find(n) != want || table.Find(strings.ToUpper(n)) != want {
				t.Errorf("%q in %v: %v, not %v", n, l, got, want)
			}
			if up, is := name.Parent(n); is && !name.Within(want.Name, table.Find(up).Name) {
				t.Errorf("%q in %v: %v", n, l, want)
			}
			if len(l) == 0 {
				continue
			}
			// P18.5: the last one is one more zone.
			more := l[len(l)-1]
			before, was := find(l[:len(l)-1], n)
			if got := fresh(t, l[:len(l)-1]).Find(n); got != before {
				t.Errorf("%q: %v, not %v", n, got, before)
			}
			isNew := name.Within(n, more.Name) && (!was || len(name.Labels(more.Name)) > len(name.Labels(before.Name)))
			if isNew && (want != more || !has) || !isNew && want != before {
				t.Errorf("%q in %v: %v", n, l, want)
			}
		}
	}
}
