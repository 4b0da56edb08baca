package name_test

import (
	"math/rand"
	"slices"
	"strings"
	"testing"

	"hustings/api"
	"hustings/name"
)

// encode writes labels as bytes, whatever they are.
func encode(labels ...string) string {
	s := ""
	for _, l := range labels {
		s += string([]byte{byte(len(l))}) + l
	}
	return s + "\x00"
}

func rep(c string, n int) string { return strings.Repeat(c, n) }

// longest has exactly MaxName bytes: 3 * 64 + 62 + 1.
func longest() string {
	return encode(rep("a", 63), rep("b", 63), rep("c", 63), rep("d", 61))
}

var noNames = []string{
	"", "\x01", "\x01a", "\x02a\x00", "\x00\x00", "\x01a\x00x", "\x01a\x00\x01b\x00", "\x03abc",
	"\x40" + rep("a", 64) + "\x00", "\xC0\x00", "\x80\x00", "\xFF", "a", "ex.", "\x05\x01a\x00",
	encode(rep("a", 63), rep("b", 63), rep("c", 63), rep("d", 62)),
	encode(rep("a", 63), rep("b", 63), rep("c", 63), rep("d", 63)),
	rep("\x01a", 127) + "\x01a\x00",
}

// pool is a list of names in which many are related.
func pool() []string {
	l := []string{"\x00", longest(), rep("\x01a", 127) + "\x00"}
	labels := []string{"a", "A", "b", "ab", "aB", "a-", "\x00", "\xFF", "Z", "z", "[", "@", ".", "\\", "0", "\x01a"}
	for _, x := range labels {
		l = append(l, encode(x), encode(x, "ex"), encode(x, "EX"), encode("www", x), encode(x, x, "b"))
	}
	return l
}

func randomName(r *rand.Rand) string {
	const bytes = "abABzZ.\\ \x00\x1F!~\x7F\xFF@[`{019"
	var l []string
	size := 1
	for range r.Intn(6) {
		b := make([]byte, 1+r.Intn(4))
		if r.Intn(12) == 0 {
			b = make([]byte, 63)
		}
		for i := range b {
			b[i] = bytes[r.Intn(len(bytes))]
		}
		if size += 1 + len(b); size > 255 {
			break
		}
		l = append(l, string(b))
	}
	return encode(l...)
}

func names(n int) []string {
	r := rand.New(rand.NewSource(1))
	l := pool()
	for range n {
		l = append(l, randomName(r))
	}
	return l
}

func TestP1_1May(t *testing.T) {
	for _, n := range names(200) {
		if !name.May(n) {
			t.Errorf("%q is a name", n)
		}
	}
	if len(longest()) != 255 {
		t.Error("the longest name has 255 bytes")
	}
	for _, n := range noNames {
		if name.May(n) {
			t.Errorf("%q is no name", n)
		}
	}
}

func TestP1_1NoName(t *testing.T) {
	for _, n := range noNames {
		up, is := name.Parent(n)
		if name.Fold(n) != "" || len(name.Labels(n)) != 0 || up != "" || is || name.Text(n) != "" {
			t.Errorf("%q", n)
		}
		for _, m := range []string{"\x00", "\x01a\x00", n} {
			if name.Same(n, m) || name.Same(m, n) || name.Within(n, m) || name.Within(m, n) || name.Compare(n, m) != 0 || name.Compare(m, n) != 0 {
				t.Errorf("%q %q", n, m)
			}
		}
	}
}

func TestP1_1Fold(t *testing.T) {
	for c := range 256 {
		n := encode(string([]byte{byte(c)}))
		want := c
		if c >= 0x41 && c <= 0x5A {
			want = c + 0x20
		}
		if got := name.Fold(n); got != encode(string([]byte{byte(want)})) {
			t.Errorf("%q: %q", n, got)
		}
	}
	if got := name.Fold("\x03wWw\x02EX\x00"); got != "\x03www\x02ex\x00" {
		t.Errorf("%q", got)
	}
	if got := name.Fold("\x00"); got != "\x00" {
		t.Errorf("%q", got)
	}
}

func TestP1_1LabelsAndParent(t *testing.T) {
	if l := name.Labels("\x03www\x02Ex\x00"); !slices.Equal(l, []string{"www", "Ex"}) {
		t.Error(l)
	}
	if l := name.Labels("\x00"); len(l) != 0 {
		t.Error(l)
	}
	if up, is := name.Parent("\x03www\x02Ex\x00"); up != "\x02Ex\x00" || !is {
		t.Errorf("%q %v", up, is)
	}
	if up, is := name.Parent("\x02Ex\x00"); up != "\x00" || !is {
		t.Errorf("%q %v", up, is)
	}
	if up, is := name.Parent("\x00"); up != "" || is {
		t.Errorf("%q %v", up, is)
	}
}

func TestP1_1Text(t *testing.T) {
	for n, want := range map[string]string{
		"\x00":                     ".",
		"\x03www\x02Ex\x00":        "www.Ex.",
		"\x03a.b\x01\\\x00":        "a\\.b.\\\\.",
		"\x04\x00\x20\x21\x09\x00": "\\000\\032!\\009.",
		"\x04\x7E\x7F\xFF\x63\x00": "~\\127\\255c.",
		"\x03\"-5\x00":             "\"-5.",
	} {
		if got := name.Text(n); got != want {
			t.Errorf("%q: %q, not %q", n, got, want)
		}
	}
	for c := range 256 {
		s := string([]byte{byte(c)})
		want := s + "."
		switch {
		case c == '.' || c == '\\':
			want = "\\" + s + "."
		case c < 0x21 || c > 0x7E:
			want = "\\" + string([]byte{byte('0' + c/100), byte('0' + c/10%10), byte('0' + c%10)}) + "."
		}
		if got := name.Text(encode(s)); got != want {
			t.Errorf("%d: %q", c, got)
		}
	}
}

func TestP1_2Same(t *testing.T) {
	same := [][2]string{{"\x00", "\x00"}, {"\x02eX\x00", "\x02Ex\x00"}, {"\x01a\x01B\x00", "\x01A\x01b\x00"}}
	for _, p := range same {
		if !name.Same(p[0], p[1]) || name.Compare(p[0], p[1]) != 0 {
			t.Errorf("%q", p)
		}
	}
	other := [][2]string{{"\x00", "\x01a\x00"}, {"\x01@\x00", "\x01`\x00"}, {"\x01[\x00", "\x01{\x00"}, {"\x01a\x01b\x00", "\x03a\x01b\x00"}, {"\x02ab\x00", "\x01a\x01b\x00"}}
	for _, p := range other {
		if name.Same(p[0], p[1]) || name.Compare(p[0], p[1]) == 0 {
			t.Errorf("%q", p)
		}
	}
}

func TestP1_2Within(t *testing.T) {
	yes := [][2]string{{"\x00", "\x00"}, {"\x01a\x00", "\x00"}, {"\x01a\x02ex\x00", "\x02EX\x00"}, {"\x01a\x01b\x02Ex\x00", "\x01B\x02ex\x00"}, {"\x02ex\x00", "\x02ex\x00"}}
	for _, p := range yes {
		if !name.Within(p[0], p[1]) {
			t.Errorf("%q", p)
		}
	}
	// The last one ends with the bytes of the zone, but not with its labels.
	no := [][2]string{{"\x00", "\x01a\x00"}, {"\x02ex\x00", "\x01a\x02ex\x00"}, {"\x03aex\x00", "\x02ex\x00"}, {"\x01a\x01b\x00", "\x01a\x00"}, {"\x04a\x02ex\x00", "\x02ex\x00"}}
	for _, p := range no {
		if name.Within(p[0], p[1]) {
			t.Errorf("%q", p)
		}
	}
}

func TestP1_2Order(t *testing.T) {
	var l []string
	for _, s := range []string{".", "\\000.", "0.", "a.", "z.a.", "a-.", "aa.", "b.", "ex.", "a.ex.", "a.a.ex.", "b.a.ex.", "aa.ex.", "b.ex.", "f.", "\\255."} {
		n, e := name.Parse(s)
		if e != api.OK {
			t.Fatal(s)
		}
		l = append(l, n)
	}
	for i, a := range l {
		for j, b := range l {
			want := 0
			if i < j {
				want = -1
			} else if i > j {
				want = 1
			}
			if got := name.Compare(a, b); got != want {
				t.Errorf("%q %q: %d, not %d", a, b, got, want)
			}
		}
	}
}

func TestP1_3Join(t *testing.T) {
	for _, c := range []struct {
		l []string
		n string
		e api.Errno
	}{
		{nil, "\x00", api.OK},
		{[]string{"www", "Ex"}, "\x03www\x02Ex\x00", api.OK},
		{[]string{""}, "", api.ErrArg},
		{[]string{"a", "", "b"}, "", api.ErrArg},
		{[]string{rep("a", 63)}, encode(rep("a", 63)), api.OK},
		{[]string{rep("a", 64)}, "", api.ErrArg},
		{[]string{rep("a", 63), rep("b", 63), rep("c", 63), rep("d", 61)}, longest(), api.OK},
		{[]string{rep("a", 63), rep("b", 63), rep("c", 63), rep("d", 62)}, "", api.ErrLong},
		{append(slices.Repeat([]string{"a"}, 200), ""), "", api.ErrArg},
		{append(slices.Repeat([]string{"a"}, 200), rep("x", 64)), "", api.ErrArg},
		{slices.Repeat([]string{"a"}, 127), rep("\x01a", 127) + "\x00", api.OK},
		{slices.Repeat([]string{"a"}, 128), "", api.ErrLong},
	} {
		if n, e := name.Join(c.l); n != c.n || e != c.e {
			t.Errorf("%q: %q %v", c.l, n, e)
		}
	}
}

func TestP1_3Parse(t *testing.T) {
	for s, want := range map[string]string{
		".": "\x00", "www.Ex.": "\x03www\x02Ex\x00", "www.Ex": "\x03www\x02Ex\x00",
		"a\\.b.": "\x03a.b\x00", "a\\032b": "\x03a b\x00", "a\\255b.": "\x03a\xFFb\x00",
		"\\\\": "\x01\\\x00", "\\a\\~\\!.": "\x03a~!\x00", "\\065.": "\x01A\x00", "!~": "\x02!~\x00",
		"\\0001": "\x02\x001\x00", "\\..": "\x01.\x00", "\\.": "\x01.\x00", "\\046": "\x01.\x00",
		rep("a", 63): encode(rep("a", 63)), "\\199\\200\\009": "\x03\xC7\xC8\x09\x00",
	} {
		if n, e := name.Parse(s); n != want || e != api.OK {
			t.Errorf("%q: %q %v", s, n, e)
		}
	}
}

func TestP1_3ParseWrong(t *testing.T) {
	forms := []string{"", "..", "a..", "a..b", ".a", ".a.", "a b", "a b.", " ", "a ", "\\256", "\\300.", "\\999", "\\25", "\\2", "\\", "a.\\", "\\25.",
		"\\2a5", "\\25a", "\\2a55", "\\25a5", "\\ a", "\\\x7Fa", "\\éa", "\\\na", "\\ ", "\\\x7F", "\\é", "é.", "\x7F", "a\x1F", "a\n", "\xFF", "a\xC3", "\\\n", "\u00AE", rep("a", 64) + "..", rep("a.", 128) + ".",
		rep("a", 64) + " ", rep("a", 300) + "\\256"}
	for _, s := range forms {
		if n, e := name.Parse(s); n != "" || e != api.ErrForm {
			t.Errorf("%q: %q %v", s, n, e)
		}
	}
	longs := []string{rep("a", 64), rep("a", 64) + ".", "b." + rep("\\001", 64), rep("a.", 128), rep("a.", 127) + "a", rep(rep("a", 63)+".", 4)}
	for _, s := range longs {
		if n, e := name.Parse(s); n != "" || e != api.ErrLong {
			t.Errorf("%q: %q %v", s, n, e)
		}
	}
	if n, e := name.Parse(rep("a.", 127)); e != api.OK || len(n) != 255 {
		t.Errorf("%q %v", n, e)
	}
}

func TestP1_4AndBack(t *testing.T) {
	for _, n := range names(500) {
		if m, e := name.Parse(name.Text(n)); m != n || e != api.OK {
			t.Errorf("%q: %q %v", n, m, e)
		}
		if m, e := name.Join(name.Labels(n)); m != n || e != api.OK {
			t.Errorf("%q: %q %v", n, m, e)
		}
	}
	for _, s := range []string{"www", "\\065\\b.c", "\\032\\.", "."} {
		n, _ := name.Parse(s)
		own := name.Text(n)
		if m, e := name.Parse(own); m != n || e != api.OK || name.Text(m) != own {
			t.Errorf("%q: %q", s, m)
		}
	}
}

// before is the order by its definition, on labels.
func before(a, b string) int {
	la, lb := name.Labels(name.Fold(a)), name.Labels(name.Fold(b))
	slices.Reverse(la)
	slices.Reverse(lb)
	return slices.Compare(la, lb)
}

func TestP1_5TotalOrder(t *testing.T) {
	l := names(60)
	for _, a := range l {
		for _, b := range l {
			c := name.Compare(a, b)
			if c != before(a, b) || c != -name.Compare(b, a) || (c == 0) != name.Same(a, b) {
				t.Errorf("%q %q: %d", a, b, c)
			}
		}
	}
	slices.SortFunc(l, name.Compare)
	for i := range l {
		for j := range i {
			if name.Compare(l[j], l[i]) > 0 {
				t.Errorf("%q %q", l[j], l[i])
			}
		}
	}
}

func TestP1_6Contiguity(t *testing.T) {
	l := names(60)
	slices.SortFunc(l, name.Compare)
	for _, zone := range l {
		last := false
		ended := false
		for _, n := range l {
			is := name.Within(n, zone)
			if is && ended || is && name.Compare(zone, n) > 0 {
				t.Errorf("%q within %q", n, zone)
			}
			ended = ended || last && !is
			last = is
		}
	}
}

func TestP1_7LetterCase(t *testing.T) {
	l := names(40)
	up := func(n string) string {
		b := []byte(n)
		for i, c := range b {
			if 'a' <= c && c <= 'z' {
				b[i] = c - 0x20
			}
		}
		return string(b)
	}
	for _, a := range l {
		for _, b := range l {
			for _, p := range [][2]string{{up(a), b}, {a, up(b)}, {up(a), up(b)}, {name.Fold(a), b}} {
				if name.Same(p[0], p[1]) != name.Same(a, b) || name.Within(p[0], p[1]) != name.Within(a, b) || name.Compare(p[0], p[1]) != name.Compare(a, b) {
					t.Errorf("%q %q", a, b)
				}
			}
		}
	}
}

func TestP1_8Ancestors(t *testing.T) {
	for _, n := range names(300) {
		count := len(name.Labels(n))
		for m := n; ; count-- {
			if !name.Within(n, m) {
				t.Errorf("%q within %q", n, m)
			}
			up, is := name.Parent(m)
			if !is {
				if m != "\x00" || count != 0 {
					t.Errorf("%q ends at %q, %d", n, m, count)
				}
				break
			}
			if len(name.Labels(up)) != count-1 || !name.Within(m, up) || name.Within(up, m) {
				t.Errorf("%q %q", m, up)
			}
			m = up
		}
	}
}
