package script_test

import (
	"fmt"
	"math"
	"math/rand"
	"reflect"
	"slices"
	"strings"
	"testing"

	"hustings/api"
	"hustings/conf"
	"hustings/forwarder"
	"hustings/resolver"
	"hustings/script"
	"hustings/wire"
)

const (
	config  = "ups 3\ndeadline 20\nhedge 2\nwait 5\ntries 2\nrest 100\nlimit 50\ncache 8\nflights 4\nwaiters 4\nttl 3600\nsize 1232\n"
	example = config + "seed 0\ntape 0 0 5 6\ntick 2\nclient 7 -\nreply 3 00\nclient 7 0007010000010000000000000265780000010001\n"
	report  = `1 0
2 0
3 error 1
4 2
up 1 000501000001000000000001026578000001000100002904d0000000000000
up 2 000601000001000000000001026578000001000100002904d0000000000000
counts 2 1 0 0 0 0 0 2 0 0 0 0
now 2
draws 4
`
)

func base() script.Script {
	c, _, _ := conf.Parse(config)
	return script.Script{Config: c}
}

func same(a, b script.Script) bool {
	return reflect.DeepEqual(a.Config, b.Config) && a.Seed == b.Seed && slices.Equal(a.First, b.First) && slices.Equal(a.Events, b.Events)
}

func client(n int, data string) forwarder.Event {
	return forwarder.Event{Kind: forwarder.Client, From: n, Data: data}
}

func reply(n int, data string) forwarder.Event {
	return forwarder.Event{Kind: forwarder.Reply, From: n, Data: data}
}

func tick(n int64) forwarder.Event { return forwarder.Event{Kind: forwarder.Tick, N: n} }

func TestP32_1Example(t *testing.T) {
	x := base()
	x.First = []uint64{0, 0, 5, 6}
	x.Events = []forwarder.Event{tick(2), client(7, ""), reply(3, "\x00"), client(7, "\x00\x07\x01\x00\x00\x01\x00\x00\x00\x00\x00\x00\x02ex\x00\x00\x01\x00\x01")}
	if s, e := script.Show(x); s != example || e != api.OK {
		t.Errorf("%s %v", s, e)
	}
	if got, line, e := script.Parse(example); !same(got, x) || line != 0 || e != api.OK {
		t.Errorf("%v %d %v", got, line, e)
	}
	if s, e := script.Play(x); s != report || e != api.OK {
		t.Errorf("%s %v", s, e)
	}
	if s := script.Run(example); s != report {
		t.Error(s)
	}
}

func TestP32_1Show(t *testing.T) {
	x := base()
	x.Config.Zones = []api.Zone{{Name: "\x04seed\x00", Policy: api.Strict}}
	x.Seed = math.MaxUint64
	x.First = []uint64{math.MaxUint64, 0, 10}
	x.Events = []forwarder.Event{
		{Kind: forwarder.Client, From: api.MaxInt, N: 5, Data: "\x00\x9A\xBC\xDE\xF0\x12"}, {Kind: forwarder.Reply, From: 0, N: -5}, {Kind: forwarder.Tick, From: -5, N: api.MaxTicks, Data: "ignored"},
	}
	want := config + "zone seed. strict\nseed 18446744073709551615\ntape 18446744073709551615 0 10\nclient 2147483647 009abcdef012\nreply 0 -\ntick 1099511627776\n"
	if s, e := script.Show(x); s != want || e != api.OK {
		t.Errorf("%s %v", s, e)
	}
	y := x
	y.Events = []forwarder.Event{client(api.MaxInt, "\x00\x9A\xBC\xDE\xF0\x12"), reply(0, ""), tick(api.MaxTicks)}
	if got, line, e := script.Parse(want); !same(got, y) || line != 0 || e != api.OK {
		t.Errorf("%v %d %v", got, line, e)
	}
	if s, e := script.Show(base()); s != config+"seed 0\ntape\n" || e != api.OK {
		t.Errorf("%s %v", s, e)
	}
}

func TestP32_1Invalid(t *testing.T) {
	check := func(x script.Script) {
		t.Helper()
		if s, e := script.Show(x); s != "" || e != api.ErrArg {
			t.Errorf("%q %v", s, e)
		}
		if s, e := script.Play(x); s != "" || e != api.ErrArg {
			t.Errorf("%q %v", s, e)
		}
	}
	check(script.Script{})
	x := base()
	x.First = make([]uint64, 257)
	check(x)
	for _, e := range []forwarder.Event{
		{}, {Kind: 4}, {Kind: 255}, client(-1, ""), client(api.MaxInt+1, ""), client(math.MaxInt, ""), reply(-1, ""), reply(api.MaxInt+1, ""), reply(math.MinInt, ""),
		tick(-1), tick(api.MaxTicks + 1), tick(math.MaxInt64), tick(math.MinInt64),
	} {
		x := base()
		x.Events = []forwarder.Event{tick(1), e}
		check(x)
		x.Events = append(x.Events, slices.Repeat([]forwarder.Event{tick(1)}, 40000)...)
		check(x)
	}
	x = base()
	x.First = make([]uint64, 256)
	if s, e := script.Show(x); s != config+"seed 0\ntape"+strings.Repeat(" 0", 256)+"\n" || e != api.OK {
		t.Errorf("%q %v", s, e)
	}
}

func TestP32_1Long(t *testing.T) {
	room := api.MaxScript - len(config+"seed 0\ntape\nclient 10 \n")
	x := base()
	x.Events = []forwarder.Event{client(10, strings.Repeat("x", room/2))}
	if room%2 == 1 {
		x.Events[0].From = 100
		x.Events[0].Data = x.Events[0].Data[:room/2]
	}
	s, e := script.Show(x)
	if e != api.OK || len(s) != api.MaxScript {
		t.Error(len(s), e)
	}
	if got, line, e := script.Parse(s); !same(got, x) || e != api.OK {
		t.Error(line, e)
	}
	if got, line, e := script.Parse(s + "\n"); !same(got, script.Script{}) || line != 0 || e != api.ErrLong {
		t.Error(line, e)
	}
	if _, line, e := script.Parse(strings.Repeat("x", api.MaxScript+1)); line != 0 || e != api.ErrLong {
		t.Error(line, e)
	}
	x.Events[0].Data += "x"
	if s, e := script.Show(x); s != "" || e != api.ErrLong {
		t.Error(len(s), e)
	}
	x.Events = slices.Repeat([]forwarder.Event{tick(1)}, 30000)
	if s, e := script.Show(x); s != "" || e != api.ErrLong {
		t.Error(len(s), e)
	}
	if s, e := script.Play(x); !strings.HasSuffix(s, "\n30000 0\ncounts 0 0 0 0 0 0 0 0 0 0 0 0\nnow 30000\ndraws 0\n") || e != api.OK {
		t.Error(len(s), e)
	}
}

// refused checks where a text is refused, and what Run says of it.
func refused(t *testing.T, s string, line int, e api.Errno) {
	t.Helper()
	x, l, got := script.Parse(s)
	if !same(x, script.Script{}) || l != line || got != e {
		t.Errorf("%.200q: %d %v, not %d %v", s, l, got, line, e)
	}
	if r := script.Run(s); r != fmt.Sprintf("error %d line %d\n", e, line) {
		t.Errorf("%.200q: %q", s, r)
	}
}

func TestP32_1ParseExamples(t *testing.T) {
	refused(t, "", 1, api.ErrForm)
	refused(t, strings.Replace(example, "seed 0\n", "seed 00\n", 1), 13, api.ErrForm)
	refused(t, strings.Replace(example, "tape 0 0 5 6\n", "", 1), 14, api.ErrForm)
	refused(t, strings.Replace(example, "tick 2\n", "tick 2 \n", 1), 15, api.ErrForm)
	refused(t, strings.Replace(example, "tick 2\n", "tick 1 \n", 1), 15, api.ErrForm)
	refused(t, strings.Replace(example, "ups 3\n", "ups 4\n", 1), 0, api.ErrArg)
}

func TestP32_1ParseWrong(t *testing.T) {
	lines := func(l ...string) string { return strings.Join(l, "\n") + "\n" }
	seed, tape := "seed 0\n", "tape 1\n"
	// A wrong line, whatever follows (P32.5).
	wrong := func(before, bad string, line int) {
		t.Helper()
		for _, rest := range []string{"", "x", "seed 0\ntape\n", "tick 1\n", "\n", strings.Repeat("client 1 -\n", 20)} {
			refused(t, before+bad+"\n"+rest, line, api.ErrForm)
		}
		if bad != "" {
			refused(t, before+bad, line, api.ErrForm)
		}
	}
	for _, bad := range []string{"", "seed", "seed ", "seed 01", "seed -1", "seed 18446744073709551616", "seed 1 2", "seed  1", "seed x", " seed 1", "Seed 1", "seeds 1", "seed 0x1", "seed\t1", "tape", "tick 1", "seed 1\r"} {
		wrong(config, bad, 13)
		wrong(config+"zone a. strict\n", bad, 14)
	}
	for _, bad := range []string{"", "tape ", "tape 1 ", "tape  1", "tape 01", "tape -", "tape 18446744073709551616", "Tape", "tapes", "tape 1 x", "tape" + strings.Repeat(" 0", 257), "tick 1", "seed 0", "client 1 -", " tape"} {
		wrong(config+seed, bad, 14)
	}
	for _, bad := range []string{"", " ", "tick", "tick ", "tick -1", "tick 01", "tick 1099511627777", "tick 1 1", "tick  1", "Tick 1", "tick 1.5", "tick x",
		"client", "client 1", "client 1 ", "client 1 0", "client 1 000", "client 1 0G", "client 1 0A", "client 1 AB", "client 1 --", "client 1 - ", "client 1 - -", "client 1  -", "client -1 -", "client 01 -", "client 2147483648 -", "client x -", "client - 1", "client 1 00 00", "client 1 0x00", "client 1 g0", "client 1 0g",
		"reply", "reply 1", "reply 1 ", "reply 1 0", "reply 2147483648 -", "reply 01 00", "reply 1 -0", "reply 1 00-", "replies 1 -", "up 1 00", "seed 0", "tape", "ups 3", "zone a. strict", "counts", "tick 1\r", "#", "1 0"} {
		wrong(config+seed+tape, bad, 15)
		wrong(config+seed+tape+"tick 1\nreply 1 ab\n", bad, 17)
	}
	// Lines that are missing.
	refused(t, config, 13, api.ErrForm)
	refused(t, config+"zone a. strict\n", 14, api.ErrForm)
	refused(t, config+seed, 14, api.ErrForm)
	refused(t, "seed 0\ntape\n", 1, api.ErrForm)
	refused(t, "ups 3\nseed 0\ntape\n", 2, api.ErrForm)
	refused(t, "ups 3\ndeadline 20\nseed 0\ntape\n", 3, api.ErrForm)
	refused(t, lines("ups 3", "ups 3", "seed 0", "tape"), 2, api.ErrForm)
	refused(t, strings.Replace(config, "hedge 2", "hedge 02", 1)+seed+"bad\n", 3, api.ErrForm)
	refused(t, "seed", 1, api.ErrForm)
	// A last line without a line feed.
	for _, last := range []string{"tick 1", "client 1 -", "reply 1 00"} {
		refused(t, config+seed+tape+last, 15, api.ErrForm)
	}
	refused(t, config+seed+"tape", 14, api.ErrForm)
	refused(t, config+"seed 0", 13, api.ErrForm)
	refused(t, strings.TrimSuffix(config, "\n"), 12, api.ErrForm)
	// An invalid configuration comes last.
	bad := strings.Replace(config, "ups 3", "ups 4", 1)
	refused(t, bad+seed+tape, 0, api.ErrArg)
	refused(t, bad+seed+tape+"x\n", 15, api.ErrForm)
	refused(t, bad+seed, 14, api.ErrForm)
	refused(t, bad, 13, api.ErrForm)
	refused(t, config+"zone Ex. strict\n"+seed+tape, 0, api.ErrArg)
}

func TestP32_1ParseEdges(t *testing.T) {
	x := base()
	for s, want := range map[string]func(x *script.Script){
		"seed 0\ntape\n": func(x *script.Script) {},
		"seed 18446744073709551615\ntape 18446744073709551615\ntick 1099511627776\ntick 0\nclient 2147483647 ff\nreply 0 -\n": func(x *script.Script) {
			x.Seed, x.First = math.MaxUint64, []uint64{math.MaxUint64}
			x.Events = []forwarder.Event{tick(api.MaxTicks), tick(0), client(api.MaxInt, "\xFF"), reply(0, "")}
		},
		"seed 1\ntape" + strings.Repeat(" 7", 256) + "\n": func(x *script.Script) { x.Seed, x.First = 1, slices.Repeat([]uint64{7}, 256) },
	} {
		y := x
		want(&y)
		if got, line, e := script.Parse(config + s); !same(got, y) || line != 0 || e != api.OK {
			t.Errorf("%q: %v %d %v", s, got, line, e)
		}
	}
}

// query is what a client sends for the addresses of a name.
func query(id uint16, n string) string {
	s, _ := wire.Encode(api.Msg{Head: api.Head{ID: id, RD: true}, Questions: []api.Question{{Name: n, Type: api.A, Class: api.IN}}})
	return s
}

// randomScript plays a forwarder to know what may be replied.
func randomScript(r *rand.Rand) script.Script {
	x := base()
	x.Config.Ups = 1 + 2*r.Intn(3)
	x.Config.Limit = 80 + r.Intn(20)
	x.Seed = r.Uint64()
	for range r.Intn(9) {
		x.First = append(x.First, uint64(r.Intn(9)))
	}
	truth, _ := resolver.New([]api.Record{{Name: "\x01a\x00", Type: api.A, Class: 1, TTL: 9, Data: "1234"}})
	lie, _ := resolver.New([]api.Record{{Name: "\x01a\x00", Type: api.A, Class: 1, TTL: 9, Data: "6666"}})
	f, _ := forwarder.New(x.Config, x.Seed, x.First)
	var sent []forwarder.Out
	for range r.Intn(30) {
		var e forwarder.Event
		switch k := r.Intn(6); {
		case k < 2:
			e = client(r.Intn(3), query(uint16(r.Intn(4)), []string{"\x01a\x00", "\x01b\x00", "\x01A\x00"}[r.Intn(3)]))
		case k < 5 && len(sent) > 0:
			o := sent[max(0, len(sent)-1-r.Intn(4))]
			e = reply(o.To, truth.Answer(o.Data))
			if r.Intn(4) == 0 {
				e.Data = lie.Answer(o.Data)
			}
		default:
			e = tick(int64(r.Intn(9)))
		}
		if r.Intn(15) == 0 {
			e.From = 9
		}
		x.Events = append(x.Events, e)
		out, _ := f.Do(e)
		for _, o := range out {
			if o.Up {
				sent = append(sent, o)
			}
		}
	}
	return x
}

// byHand is a report, event by event.
func byHand(x script.Script) string {
	f, _ := forwarder.New(x.Config, x.Seed, x.First)
	s := ""
	for i, e := range x.Events {
		out, errno := f.Do(e)
		if errno != api.OK {
			s += fmt.Sprintf("%d error %d\n", i+1, errno)
			continue
		}
		s += fmt.Sprintf("%d %d\n", i+1, len(out))
		for _, o := range out {
			who, data := "client", fmt.Sprintf("%x", o.Data)
			if o.Up {
				who = "up"
			}
			if data == "" {
				data = "-"
			}
			s += fmt.Sprintf("%s %d %s\n", who, o.To, data)
		}
	}
	s += "counts"
	for _, n := range f.Counts() {
		s += fmt.Sprint(" ", n)
	}
	return s + fmt.Sprintf("\nnow %d\ndraws %d\n", f.Now(), f.Draws())
}

// datagrams are the lines of a report that are those of outgoing datagrams, and its last three, without counts.
func datagrams(report string) []string {
	var l []string
	for _, s := range strings.Split(report, "\n") {
		if strings.HasPrefix(s, "up ") || strings.HasPrefix(s, "client ") || strings.HasPrefix(s, "now ") || strings.HasPrefix(s, "draws ") {
			l = append(l, s)
		}
	}
	return l
}

func TestP32_3to8Random(t *testing.T) {
	r := rand.New(rand.NewSource(32))
	answers := 0
	for range 400 {
		x := randomScript(r)
		s, e := script.Show(x)
		got, line, e2 := script.Parse(s)
		for i := range x.Events {
			if x.Events[i].Kind == forwarder.Tick {
				x.Events[i].From = 0
			}
		}
		if e != api.OK || e2 != api.OK || line != 0 || !same(got, x) {
			t.Fatalf("%s: %v", s, got)
		}
		if again, _ := script.Show(got); again != s {
			t.Errorf("%s, not %s", again, s)
		}
		full, e := script.Play(x)
		if want := byHand(x); full != want || e != api.OK || script.Run(s) != want || script.Run(s) != script.Run(s) {
			t.Fatalf("%s, not %s", full, want)
		}
		answers += strings.Count(full, "client ")
		// P32.6: the first events alone.
		part := x
		part.Events = x.Events[:r.Intn(len(x.Events)+1)]
		head, _ := script.Play(part)
		head, _, _ = strings.Cut(head, "counts")
		if !strings.HasPrefix(full, head) {
			t.Errorf("%s does not begin with %s", full, head)
		}
		// P32.7: ticks in two lines.
		two := x
		two.Events = nil
		for _, e := range x.Events {
			if e.Kind == forwarder.Tick {
				n := r.Int63n(e.N + 1)
				two.Events = append(two.Events, tick(n))
				e.N -= n
			}
			two.Events = append(two.Events, e)
		}
		if got, _ := script.Play(two); !slices.Equal(datagrams(got), datagrams(full)) || !strings.Contains(got, full[strings.Index(full, "counts"):]) {
			t.Errorf("%s, not %s", got, full)
		}
		// P32.8: a dropped datagram.
		more := x
		at := r.Intn(len(x.Events) + 1)
		more.Events = slices.Insert(slices.Clone(x.Events), at, client(r.Intn(3), "\x00\x01\x80"))
		got2, _ := script.Play(more)
		if !slices.Equal(datagrams(got2), datagrams(full)) {
			t.Errorf("%s, not %s", got2, full)
		}
	}
	if answers < 500 {
		t.Error("too few answers", answers)
	}
}

// TestExamplesOfTheWhole plays those of the document's ten examples that are about several upstreams.
func TestExamplesOfTheWhole(t *testing.T) {
	const ex = "\x02ex\x00"
	q := api.Question{Name: ex, Type: api.A, Class: api.IN}
	says := func(u int, id uint16, ttl uint32, last ...byte) forwarder.Event {
		m := api.Msg{Head: api.Head{ID: id, QR: true}, Questions: []api.Question{q}}
		for _, b := range last {
			m.Answers = append(m.Answers, api.Record{Name: ex, Type: api.A, Class: api.IN, TTL: ttl, Data: "\x0A\x00\x00" + string([]byte{b})})
		}
		s, _ := wire.Encode(m)
		return reply(u, s)
	}
	many := make([]byte, 40)
	for i := range many {
		many[i] = byte(i)
	}
	// The order is 1 2 0, with the IDs 5, 6, 8 ...
	for name, c := range map[string]struct {
		events []forwarder.Event
		want   string // the kinds of the datagrams, by line: u up, the code of a reply, or T for TC
	}{
		"agree, and from the cache": {[]forwarder.Event{client(7, query(7, ex)), says(1, 5, 9, 1), says(2, 6, 9, 1), client(8, query(8, ex))}, "uu--0-0"},
		"one dissents":              {[]forwarder.Event{client(7, query(7, ex)), says(1, 5, 9, 1), says(2, 6, 9, 6), says(0, 8, 9, 1)}, "uu--u-0"},
		"all differ":                {[]forwarder.Event{client(7, query(7, ex)), says(1, 5, 9, 1), says(2, 6, 9, 2), says(0, 8, 9, 3)}, "uu--u-2"},
		"one is silent":             {[]forwarder.Event{client(7, query(7, ex)), says(1, 5, 9, 1), tick(1), tick(1), says(0, 8, 9, 1)}, "uu---u-0"},
		"two are silent":            {[]forwarder.Event{client(7, query(7, ex)), says(1, 5, 9, 1), tick(20)}, "uu--uuu2"},
		"another order":             {[]forwarder.Event{client(7, query(7, ex)), says(1, 5, 9, 1, 2, 3), says(2, 6, 5, 3, 1, 2)}, "uu--0"},
		"two clients":               {[]forwarder.Event{client(7, query(7, ex)), client(8, query(8, ex)), says(1, 5, 9, 1), says(2, 6, 9, 1)}, "uu---00"},
		"no question":               {[]forwarder.Event{client(7, strings.Repeat("\x00", 12))}, "1"},
		"truncated":                 {[]forwarder.Event{client(7, query(7, ex)), says(1, 5, 9, many...), says(2, 6, 9, many...)}, "uu--T"},
	} {
		x := base()
		x.First = []uint64{0, 0, 5, 6, 8, 9, 10, 11}
		x.Events = c.events
		f, _ := forwarder.New(x.Config, x.Seed, x.First)
		got := ""
		for i, e := range x.Events {
			out, _ := f.Do(e)
			if i > 0 {
				got += "-"
			}
			for _, o := range out {
				m, _ := wire.Decode(o.Data)
				switch {
				case o.Up:
					got += "u"
				case m.TC:
					got += "T"
				default:
					got += fmt.Sprint(m.Code)
				}
			}
		}
		if got != c.want {
			t.Errorf("%s: %s, not %s", name, got, c.want)
		}
		if s, _ := script.Play(x); s != byHand(x) {
			t.Errorf("%s: %s", name, s)
		}
	}
}
