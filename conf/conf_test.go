package conf_test

import (
	"math"
	"math/rand"
	"reflect"
	"slices"
	"strings"
	"testing"

	"hustings/api"
	"hustings/conf"
)

const (
	ex  = "\x02ex\x00"
	cdn = "\x03cdn\x00"
)

func base() api.Config {
	return api.Config{Ups: 3, Deadline: 20, Hedge: 2, Wait: 5, Tries: 2, Rest: 100, Limit: 50, Cache: 8, Flights: 4, Waiters: 4, TTL: 3600, Size: 1232}
}

const baseText = "ups 3\ndeadline 20\nhedge 2\nwait 5\ntries 2\nrest 100\nlimit 50\ncache 8\nflights 4\nwaiters 4\nttl 3600\nsize 1232\n"

// checkMay checks whether a configuration is valid, by all calls that tell it.
func checkMay(t *testing.T, c api.Config, valid bool) {
	t.Helper()
	e, lies := api.ErrArg, 0
	if valid {
		e, lies = api.OK, (c.Ups-1)/2
	}
	if got := conf.May(c); got != e {
		t.Errorf("%v: %v", c, got)
	}
	if got := conf.Lies(c); got != lies {
		t.Errorf("%v: lies %v", c, got)
	}
	if s, got := conf.Show(c); got != e || (s == "") == valid {
		t.Errorf("%v: %q %v", c, s, got)
	}
}

func TestP17_1Numbers(t *testing.T) {
	checkMay(t, base(), true)
	checkMay(t, api.Config{}, false)
	// For each field the greatest and least valid numbers, with a Deadline that suits all.
	for _, x := range []struct {
		field       string
		least, most int
	}{
		{"Hedge", 1, 1000}, {"Wait", 1, 1000}, {"Tries", 1, 4}, {"Rest", 1, 100000}, {"Limit", 1, 100}, {"Cache", 0, 256},
		{"Flights", 1, 32}, {"Waiters", 1, 16}, {"TTL", 0, math.MaxInt32}, {"Size", 512, 4096}, {"Deadline", 12, 100000},
	} {
		for n, valid := range map[int]bool{x.least: true, x.most: true, x.least - 1: false, x.most + 1: false, math.MaxInt: false, math.MinInt: false, (x.least + x.most) / 2: true, -1: false} {
			c := base()
			if x.field != "Deadline" {
				c.Deadline = 9000
			}
			reflect.ValueOf(&c).Elem().FieldByName(x.field).SetInt(int64(n))
			checkMay(t, c, valid)
		}
	}
	for ups := -3; ups < 14; ups++ {
		c := base()
		c.Ups = ups
		checkMay(t, c, slices.Contains([]int{1, 3, 5, 7, 9}, ups))
	}
}

func TestP17_4EnoughTime(t *testing.T) {
	for _, x := range [][5]int{{3, 2, 5, 2, 12}, {1, 1000, 5, 2, 10}, {9, 1000, 1000, 4, 8000}, {5, 3, 7, 1, 13}, {7, 1, 1, 1, 4}} {
		c := base()
		c.Ups, c.Hedge, c.Wait, c.Tries, c.Deadline = x[0], x[1], x[2], x[3], x[4]
		checkMay(t, c, true)
		if c.Ups != 2*conf.Lies(c)+1 {
			t.Error(c.Ups, conf.Lies(c))
		}
		c.Deadline--
		checkMay(t, c, false)
	}
}

func zones(l ...api.Zone) api.Config {
	c := base()
	c.Zones = l
	return c
}

func TestP17_1Zones(t *testing.T) {
	for _, l := range [][]api.Zone{
		{}, {{Name: ex, Policy: api.Strict}}, {{Name: "\x00", Policy: api.Union}}, {{Name: ex, Policy: api.Refuse}, {Name: cdn, Policy: api.Trusted, Trust: 7}, {Name: "\x01a" + ex, Policy: api.Trusted, Trust: 4}},
	} {
		checkMay(t, zones(l...), true)
		slices.Reverse(l)
		checkMay(t, zones(l...), true)
	}
	for _, z := range []api.Zone{
		{Name: "ex", Policy: api.Strict}, {Name: "", Policy: api.Strict}, {Name: "\x02Ex\x00", Policy: api.Strict}, {Name: ex}, {Name: ex, Policy: 5}, {Name: ex, Policy: 255},
		{Name: ex, Policy: api.Trusted}, {Name: ex, Policy: api.Trusted, Trust: 8}, {Name: ex, Policy: api.Trusted, Trust: 9}, {Name: ex, Policy: api.Trusted, Trust: 1 << 15},
		{Name: ex, Policy: api.Strict, Trust: 1}, {Name: ex, Policy: api.Union, Trust: 2}, {Name: ex, Policy: api.Refuse, Trust: 4}, {Name: cdn, Policy: api.Union},
	} {
		other := api.Zone{Name: cdn, Policy: api.Strict}
		checkMay(t, zones(z, other), false)
		checkMay(t, zones(other, z), false)
	}
	c := base()
	for i := range 17 {
		checkMay(t, c, true)
		c.Zones = append(c.Zones, api.Zone{Name: "\x01" + string([]byte{'a' + byte(i)}) + "\x00", Policy: api.Strict})
	}
	checkMay(t, c, false)
	nine := zones(api.Zone{Name: ex, Policy: api.Trusted, Trust: 1<<9 - 1})
	nine.Ups = 9
	nine.Deadline = 100
	checkMay(t, nine, true)
	nine.Zones[0].Trust = 1 << 9
	checkMay(t, nine, false)
}

func TestP17_2Show(t *testing.T) {
	c := zones(api.Zone{Name: cdn, Policy: api.Trusted, Trust: 5}, api.Zone{Name: "\x00", Policy: api.Strict}, api.Zone{Name: "\x02a.\x01 \x00", Policy: api.Union}, api.Zone{Name: ex, Policy: api.Refuse})
	want := baseText + "zone cdn. trusted 0 2\nzone . strict\nzone a\\..\\032. union\nzone ex. refuse\n"
	if s, e := conf.Show(c); s != want || e != api.OK {
		t.Errorf("%q %v", s, e)
	}
	if got, line, e := conf.Parse(want); !reflect.DeepEqual(got, c) || line != 0 || e != api.OK {
		t.Error(got, line, e)
	}
	if s, e := conf.Show(base()); s != baseText || e != api.OK {
		t.Errorf("%q %v", s, e)
	}
	if got, line, e := conf.Parse(baseText); !reflect.DeepEqual(got, base()) || line != 0 || e != api.OK {
		t.Error(got, line, e)
	}
}

// refused checks that a text is refused at a line.
func refused(t *testing.T, s string, line int, e api.Errno) {
	t.Helper()
	c, l, got := conf.Parse(s)
	if !reflect.DeepEqual(c, api.Config{}) || l != line || got != e {
		t.Errorf("%q: %v %d %v, not %d %v", s, c, l, got, line, e)
	}
}

func TestP17_2ParseWrongNumbers(t *testing.T) {
	lines := strings.SplitAfter(strings.TrimSuffix(baseText, "\n"), "\n")
	lines[11] += "\n"
	for i := range 12 {
		word, _, _ := strings.Cut(lines[i], " ")
		for _, bad := range []string{"", "x", word, word + " ", word + "  5", " " + word + " 5", word + " 05", word + " 5 ", word + " 5 5", word + " -5", word + " +5", word + " 5x", word + " 2147483648", word + " 99999999999999999999999",
			word + "\t5", word + " 5\r", strings.ToUpper(word) + " 5", word + "x 5", "zone ex. strict", word + ",5", "5 " + word, word + " five", word + " 0x5"} {
			wrong := slices.Clone(lines)
			wrong[i] = bad + "\n"
			refused(t, strings.Join(wrong, ""), i+1, api.ErrForm)
			// P17.5: whatever follows.
			for _, rest := range []string{"", "bad", "\n\n", "zone x. strict\n"} {
				refused(t, strings.Join(wrong[:i+1], "")+rest, i+1, api.ErrForm)
			}
		}
		refused(t, strings.Join(lines[:i], ""), i+1, api.ErrForm)                                  // missing
		refused(t, strings.Join(lines[:i], "")+strings.TrimSpace(lines[i]), i+1, api.ErrForm)      // without a line feed
		refused(t, strings.Join(slices.Delete(slices.Clone(lines), i, i+1), ""), i+1, api.ErrForm) // left out
		for _, n := range []string{"2147483647", "0"} {
			big := slices.Clone(lines)
			big[i] = word + " " + n + "\n"
			c, line, e := conf.Parse(strings.Join(big, ""))
			if line != 0 || e != api.ErrArg && e != api.OK {
				t.Error(c, line, e)
			}
		}
	}
	refused(t, "", 1, api.ErrForm)
	refused(t, "\n", 1, api.ErrForm)
	refused(t, lines[1]+lines[0]+strings.Join(lines[2:], ""), 1, api.ErrForm)
	refused(t, "ups 3\nups 3\n", 2, api.ErrForm)
}

func TestP17_2ParseWrongZones(t *testing.T) {
	for _, bad := range []string{"", "zone", "zone ", "zone ex.", "zone ex. ", "zone ex strict", "zone ex. strict ", "zone ex. strict 0", "zone ex. union 1", "zone ex. refuse 0", "zone ex. Strict", "zone ex. trust 0", "zone  ex. strict", " zone ex. strict", "zone ex.  strict",
		"zone ex. trusted", "zone ex. trusted ", "zone ex. trusted 0 0", "zone ex. trusted 1 0", "zone ex. trusted 0 2 1", "zone ex. trusted 16", "zone ex. trusted 01", "zone ex. trusted -1", "zone ex. trusted 0  1", "zone ex. trusted 0 ", "zone ex. trusted a", "zone ex. trusted 0,1", "zone ex. trusted 4294967296",
		"zone .. strict", "zone a..b. strict", "zone \\a. strict", "zone \\101. strict", "zone " + strings.Repeat("a", 64) + ". strict", "Zone ex. strict", "zones ex. strict", "zone strict", "zone ex. 4", "ups 3", "size 1232", "zone ex. strict\r", "#", "zone é. strict"} {
		for _, before := range []string{"", "zone a. strict\n"} {
			refused(t, baseText+before+bad+"\n", 13+strings.Count(before, "\n"), api.ErrForm)
			refused(t, baseText+before+bad+"\nzone b. strict", 13+strings.Count(before, "\n"), api.ErrForm)
		}
	}
	refused(t, baseText+"zone ex. strict", 13, api.ErrForm)
	refused(t, baseText+"zone a. strict\nzone ex. trusted 1", 14, api.ErrForm)
	refused(t, baseText+" ", 13, api.ErrForm)
}

func TestP17_2ParseInvalid(t *testing.T) {
	refused(t, strings.Replace(baseText, "ups 3", "ups 4", 1), 0, api.ErrArg)
	refused(t, strings.Replace(baseText, "deadline 20", "deadline 11", 1), 0, api.ErrArg)
	for _, z := range []string{"zone Ex. strict\n", "zone ex. strict\nzone ex. union\n", "zone ex. trusted 3\n", "zone ex. trusted 15\n", "zone ex. trusted 0 15\n"} {
		refused(t, baseText+z, 0, api.ErrArg)
	}
	many := baseText
	for i := range 17 {
		many += "zone " + string([]byte{'a' + byte(i)}) + ". strict\n"
	}
	refused(t, many, 0, api.ErrArg)
	// A wrong line comes first.
	refused(t, many+"x\n", 30, api.ErrForm)
	refused(t, strings.Replace(baseText, "ups 3", "ups 4", 1)+"x\n", 13, api.ErrForm)
}

func TestP17_2ParseLong(t *testing.T) {
	line := "zone a. strict\n"
	rest := api.MaxScript - len(baseText)
	s := baseText + strings.Repeat(line, rest/len(line))
	s += strings.Repeat("x", api.MaxScript-len(s)-1) + "\n"
	refused(t, s, 12+rest/len(line)+1, api.ErrForm)
	refused(t, s+"x", 0, api.ErrLong)
	refused(t, strings.Repeat("x", api.MaxScript+1), 0, api.ErrLong)
	refused(t, strings.Repeat("x", api.MaxScript), 1, api.ErrForm)
}

func TestP17_3AndBack(t *testing.T) {
	r := rand.New(rand.NewSource(17))
	names := []string{"\x00", ex, cdn, "\x01a" + ex, "\x03\x00\xFF.\x00", "\x01\\\x00"}
	valid := 0
	for range 500 {
		c := api.Config{Ups: r.Intn(10), Deadline: r.Intn(6000), Hedge: r.Intn(1001), Wait: r.Intn(1001), Tries: r.Intn(5), Rest: r.Intn(100001), Limit: r.Intn(101), Cache: r.Intn(257), Flights: r.Intn(33), Waiters: r.Intn(17), TTL: r.Intn(math.MaxInt32), Size: 512 + r.Intn(3585)}
		for _, i := range r.Perm(len(names))[:r.Intn(len(names))] {
			z := api.Zone{Name: names[i], Policy: uint8(1 + r.Intn(4))}
			if z.Policy == api.Trusted {
				z.Trust = uint16(r.Intn(1 << uint(c.Ups)))
			}
			c.Zones = append(c.Zones, z)
		}
		if conf.May(c) != api.OK {
			continue
		}
		valid++
		s, e := conf.Show(c)
		got, line, e2 := conf.Parse(s)
		if e != api.OK || e2 != api.OK || line != 0 || !reflect.DeepEqual(got, c) {
			t.Errorf("%v: %q %v", c, s, got)
		}
		if again, _ := conf.Show(got); again != s {
			t.Errorf("%q %q", s, again)
		}
		// P17.6: the order of the zones does not matter.
		slices.Reverse(got.Zones)
		checkMay(t, got, true)
		got.Zones = nil
		checkMay(t, got, true)
	}
	if valid < 50 {
		t.Error("too few are valid", valid)
	}
}
