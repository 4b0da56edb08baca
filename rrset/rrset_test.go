package rrset_test

import (
	"fmt"
	"math/rand"
	"slices"
	"strings"
	"testing"

	"hustings/api"
	"hustings/name"
	"hustings/rdata"
	"hustings/rrset"
)

const ex = "\x02ex\x00"

func rec(n string, kind, class uint16, ttl uint32, data string) api.Record {
	return api.Record{Name: n, Type: kind, Class: class, TTL: ttl, Data: data}
}

func same(a, b []api.Set) bool { return slices.EqualFunc(a, b, rrset.Same) }

func TestP8_1Example(t *testing.T) {
	l := []api.Record{rec(ex, api.A, 1, 5, "\x0A\x00\x00\x02"), rec("\x02EX\x00", api.A, 1, 3, "\x0A\x00\x00\x01"), rec(ex, api.A, 1, 9, "\x0A\x00\x00\x02")}
	want := []api.Set{{Name: ex, Type: api.A, Class: 1, TTL: 3, Data: []string{"\x0A\x00\x00\x01", "\x0A\x00\x00\x02"}}}
	if got := rrset.Group(l); !same(got, want) {
		t.Error(got)
	}
	want[0].TTL = 0
	if got := rrset.Group(append(l, rec(ex, api.A, 1, 1<<31, "\x0A\x00\x00\x02"))); !same(got, want) {
		t.Error(got)
	}
	if got := rrset.Group([]api.Record{rec(ex, api.A, 1, 5, "\x0A\x00\x00")}); len(got) != 0 {
		t.Error(got)
	}
	if got := rrset.Group(nil); len(got) != 0 {
		t.Error(got)
	}
}

func TestP8_1Order(t *testing.T) {
	l := []api.Record{
		rec("\x01f\x00", 1, 1, 0, "1234"), rec("\x01a"+ex, 1, 1, 0, "1234"), rec(ex, 99, 1, 0, "b"), rec(ex, 99, 1, 0, ""), rec(ex, 99, 1, 0, "\xFF"), rec(ex, 99, 1, 0, "aa"), rec(ex, 99, 1, 0, "a"),
		rec(ex, 256, 1, 0, "x"), rec(ex, 98, 256, 0, "x"), rec(ex, 98, 2, 0, "x"), rec("\x00", 65535, 65535, 0, "x"),
	}
	got := ""
	for _, s := range rrset.Group(l) {
		got += fmt.Sprintf("%s%d/%d%q ", name.Text(s.Name), s.Type, s.Class, s.Data)
	}
	want := `.65535/65535["x"] ex.98/2["x"] ex.98/256["x"] ex.99/1["" "a" "aa" "b" "\xff"] ex.256/1["x"] a.ex.1/1["1234"] f.1/1["1234"] `
	if got != want {
		t.Error(got)
	}
}

func TestP8_1Records(t *testing.T) {
	s := api.Set{Name: "\x02EX\x00", Type: 7, Class: 8, TTL: 9, Data: []string{"b", "a", "b"}}
	want := []api.Record{rec("\x02EX\x00", 7, 8, 9, "b"), rec("\x02EX\x00", 7, 8, 9, "a"), rec("\x02EX\x00", 7, 8, 9, "b")}
	if got := rrset.Records(s); !slices.Equal(got, want) {
		t.Error(got)
	}
	if got := rrset.Records(api.Set{Name: ex}); len(got) != 0 {
		t.Error(got)
	}
}

func TestP8_2Find(t *testing.T) {
	l := []api.Set{
		{Name: ex, Type: 1, Class: 1, TTL: 1, Data: []string{"a"}}, {Name: ex, Type: 2, Class: 1, TTL: 2}, {Name: "\x02EX\x00", Type: 1, Class: 1, TTL: 3},
		{Name: ex, Type: 1, Class: 2, TTL: 4}, {Name: "bad", Type: 1, Class: 1, TTL: 5}, {Name: "\x00", Type: 1, Class: 1, TTL: 6},
	}
	for _, c := range []struct {
		n           string
		kind, class uint16
		ttl         uint32
	}{{ex, 1, 1, 1}, {"\x02eX\x00", 1, 1, 1}, {ex, 2, 1, 2}, {ex, 1, 2, 4}, {"\x00", 1, 1, 6}} {
		s, is := rrset.Find(l, c.n, c.kind, c.class)
		if !is || s.TTL != c.ttl {
			t.Errorf("%v: %v %v", c, s, is)
		}
	}
	for _, c := range []struct {
		n           string
		kind, class uint16
	}{{ex, 3, 1}, {ex, 2, 2}, {ex, 1, 3}, {"\x01a" + ex, 1, 1}, {"bad", 1, 1}, {"", 1, 1}, {"\x00", 2, 1}} {
		if s, is := rrset.Find(l, c.n, c.kind, c.class); is || !rrset.Same(s, api.Set{}) {
			t.Errorf("%v: %v", c, s)
		}
	}
	s, _ := rrset.Find(l, ex, 1, 1)
	if s.Name != ex || !slices.Equal(s.Data, []string{"a"}) {
		t.Error(s)
	}
	if s.Data[0] = "x"; l[0].Data[0] != "a" {
		t.Error("shared memory")
	}
	if s, is := rrset.Find(l[2:3], ex, 1, 1); !is || s.Name != "\x02EX\x00" {
		t.Error(s)
	}
}

func TestP8_2Same(t *testing.T) {
	x := api.Set{Name: ex, Type: 1, Class: 2, TTL: 3, Data: []string{"a", "b"}}
	if !rrset.Same(x, x) || !rrset.Same(api.Set{Data: []string{}}, api.Set{}) {
		t.Error("the same")
	}
	for _, y := range []api.Set{
		{Name: "\x02EX\x00", Type: 1, Class: 2, TTL: 3, Data: []string{"a", "b"}}, {Name: ex, Type: 2, Class: 2, TTL: 3, Data: []string{"a", "b"}},
		{Name: ex, Type: 1, Class: 3, TTL: 3, Data: []string{"a", "b"}}, {Name: ex, Type: 1, Class: 2, TTL: 4, Data: []string{"a", "b"}},
		{Name: ex, Type: 1, Class: 2, TTL: 3, Data: []string{"b", "a"}}, {Name: ex, Type: 1, Class: 2, TTL: 3, Data: []string{"a"}},
		{Name: ex, Type: 1, Class: 2, TTL: 3, Data: []string{"a", "b", ""}}, {Name: ex, Type: 1, Class: 2, TTL: 3, Data: []string{"ab", ""}},
	} {
		if rrset.Same(x, y) || rrset.Same(y, x) {
			t.Error(y)
		}
	}
}

var (
	names = []string{"\x00", ex, "\x02EX\x00", "\x02eX\x00", "\x01a" + ex, "\x01A" + ex, "\x01b" + ex}
	kinds = []uint16{api.A, api.NS, api.MX, api.SOA, api.SRV, api.CNAME, api.PTR, api.TXT, 99, api.OPT}
	ttls  = []uint32{0, 1, 2, 5, 1<<31 - 1, 1 << 31, 1<<32 - 1}
)

func randomRecords(r *rand.Rand, n int) []api.Record {
	var l []api.Record
	for range n {
		kind := kinds[r.Intn(len(kinds))]
		other := names[r.Intn(len(names))]
		data := map[uint16]string{api.A: "AbC" + string([]byte{byte(r.Intn(3))}), api.MX: "AB" + other, api.SOA: other + "\x01Q\x00" + strings.Repeat("S", 20),
			api.SRV: "ABCDEF" + other, api.TXT: "\x01T", 99: other, api.OPT: ""}[kind]
		if kind == api.NS || kind == api.CNAME || kind == api.PTR {
			data = other
		}
		n := names[r.Intn(len(names))]
		switch r.Intn(20) {
		case 0:
			data += "\x00\x00\x00"
		case 1:
			n = "bad"
		}
		l = append(l, rec(n, kind, uint16(r.Intn(2)), ttls[r.Intn(len(ttls))], data))
	}
	return l
}

func upper(n string) string {
	b := []byte(n)
	for i, c := range b {
		if 'a' <= c && c <= 'z' {
			b[i] = c - 0x20
		}
	}
	return string(b)
}

func TestP8_3to8Random(t *testing.T) {
	r := rand.New(rand.NewSource(8))
	for range 300 {
		l := randomRecords(r, r.Intn(25))
		kept := slices.Clone(l)
		sets := rrset.Group(l)
		if !slices.Equal(l, kept) {
			t.Error("the argument was changed")
		}
		checkMembers(t, l, sets)
		checkIncreasing(t, sets)
		// P8.3: neither order nor repetitions.
		m := slices.Clone(l)
		if len(l) > 0 {
			m = append(m, l[r.Intn(len(l))], l[0])
		}
		r.Shuffle(len(m), func(i, j int) { m[i], m[j] = m[j], m[i] })
		if got := rrset.Group(m); !same(got, sets) {
			t.Errorf("%v: %v %v", l, sets, got)
		}
		// P8.4: and back.
		var all []api.Record
		for _, s := range sets {
			all = append(all, rrset.Records(s)...)
		}
		if got := rrset.Group(all); !same(got, sets) {
			t.Errorf("%v %v", sets, got)
		}
		// P8.7: letter case of names, and of names in data.
		for i := range m {
			if name.May(m[i].Name) {
				m[i].Name = upper(m[i].Name)
			}
			if len(rdata.Names(m[i].Type, m[i].Data)) == 1 {
				n := rdata.Names(m[i].Type, m[i].Data)[0]
				m[i].Data = m[i].Data[:len(m[i].Data)-len(n)] + upper(n)
			}
		}
		if got := rrset.Group(m); !same(got, sets) {
			t.Errorf("%v: %v %v", m, sets, got)
		}
	}
}

// checkMembers is P8.6 and P8.8, by the definition.
func checkMembers(t *testing.T, l []api.Record, sets []api.Set) {
	least := make([]uint32, len(sets))
	for i := range least {
		least[i] = api.MaxTTL
	}
	data := make([]map[string]bool, len(sets))
	for _, x := range l {
		at := slices.IndexFunc(sets, func(s api.Set) bool {
			return name.Same(s.Name, x.Name) && s.Type == x.Type && s.Class == x.Class
		})
		s, is := rrset.Find(sets, x.Name, x.Type, x.Class)
		if !name.May(x.Name) || !rdata.May(x.Type, x.Data) {
			continue
		}
		if at < 0 || !is || !rrset.Same(s, sets[at]) || !slices.Contains(s.Data, rdata.Fold(x.Type, x.Data)) {
			t.Errorf("%v: %v %v", x, s, is)
			return
		}
		if data[at] == nil {
			data[at] = map[string]bool{}
		}
		data[at][rdata.Fold(x.Type, x.Data)] = true
		if x.TTL > api.MaxTTL {
			x.TTL = 0
		}
		least[at] = min(least[at], x.TTL)
	}
	for i, s := range sets {
		if s.TTL != least[i] || len(s.Data) != len(data[i]) {
			t.Errorf("%v: %v", l, s)
		}
	}
}

// checkIncreasing is P8.5.
func checkIncreasing(t *testing.T, sets []api.Set) {
	for i, s := range sets {
		if len(s.Data) == 0 || name.Fold(s.Name) != s.Name {
			t.Error(s)
		}
		for j := 1; j < len(s.Data); j++ {
			if s.Data[j-1] >= s.Data[j] {
				t.Error(s)
			}
		}
		if i == 0 {
			continue
		}
		p := sets[i-1]
		c := name.Compare(p.Name, s.Name)
		if c > 0 || c == 0 && (p.Type > s.Type || p.Type == s.Type && p.Class >= s.Class) {
			t.Error(p, s)
		}
	}
}

func TestP8_6OneTTL(t *testing.T) {
	l := []api.Record{rec(ex, 1, 1, 7, "1234"), rec(ex, 1, 1, 9, "1235"), rec(ex, 1, 2, 3, "1234")}
	for ttl, want := range map[uint32]uint32{0: 0, 5: 5, 9: 9, 20: 9, 1<<31 - 1: 9, 1 << 31: 0, 1<<32 - 1: 0} {
		l[0].TTL = ttl
		s := rrset.Group(l)
		if len(s) != 2 || s[0].TTL != want || s[1].TTL != 3 || !slices.Equal(s[0].Data, []string{"1234", "1235"}) {
			t.Error(ttl, s)
		}
	}
	if s := rrset.Group(l[:1]); l[0].TTL > api.MaxTTL && s[0].TTL != 0 {
		t.Error(s)
	}
	if s := rrset.Group([]api.Record{rec(ex, 1, 1, 1<<31-1, "1234")}); s[0].TTL != 1<<31-1 {
		t.Error(s)
	}
}
