package forwarder_test

import (
	"fmt"
	"math"
	"slices"
	"strings"
	"testing"

	"hustings/api"
	"hustings/forwarder"
	"hustings/heard"
	"hustings/wire"
)

const (
	ex    = "\x02ex\x00"
	query = "\x00\x07\x01\x00\x00\x01\x00\x00\x00\x00\x00\x00\x02ex\x00\x00\x01\x00\x01"
	fail  = "\x00\x07\x81\x82\x00\x01\x00\x00\x00\x00\x00\x00\x02ex\x00\x00\x01\x00\x01"
)

func base() api.Config {
	return api.Config{Ups: 3, Deadline: 20, Hedge: 2, Wait: 5, Tries: 2, Rest: 100, Limit: 50, Cache: 8, Flights: 4, Waiters: 4, TTL: 3600, Size: 1232}
}

func exA() api.Question { return api.Question{Name: ex, Type: api.A, Class: api.IN} }

func fresh(t *testing.T, c api.Config, first ...uint64) *forwarder.Forwarder {
	t.Helper()
	f, e := forwarder.New(c, 0, first)
	if e != api.OK || f == nil {
		t.Fatal(e)
	}
	return f
}

func example(t *testing.T) *forwarder.Forwarder {
	return fresh(t, base(), 0, 0, 5, 6, 8, 9, 10, 11)
}

func encode(t *testing.T, m api.Msg) string {
	t.Helper()
	s, e := wire.Encode(m)
	if e != api.OK {
		t.Fatal(m, e)
	}
	return s
}

// typed is a message of one question, ex. , with another type.
func typed(s string, kind byte) string { return s[:17] + string([]byte{kind}) + s[18:] }

func toClient(n int, data string) forwarder.Out { return forwarder.Out{To: n, Data: data} }

// toUp is a query for ex. A.
func toUp(t *testing.T, u int, id uint16) forwarder.Out {
	t.Helper()
	s, _ := heard.Query(exA(), id, 1232)
	return forwarder.Out{Up: true, To: u, Data: s}
}

func do(t *testing.T, f *forwarder.Forwarder, x forwarder.Event, want ...forwarder.Out) {
	t.Helper()
	out, e := f.Do(x)
	if e != api.OK || !slices.Equal(out, want) {
		t.Errorf("%+v: %+v %v, not %+v", x, out, e, want)
	}
}

func asks(n int, data string) forwarder.Event {
	return forwarder.Event{Kind: forwarder.Client, From: n, Data: data}
}

func ticks(n int64) forwarder.Event { return forwarder.Event{Kind: forwarder.Tick, N: n} }

// says is a reply to a query for ex. A: these addresses, with a TTL.
func says(t *testing.T, u int, id uint16, ttl uint32, last ...byte) forwarder.Event {
	t.Helper()
	m := api.Msg{Head: api.Head{ID: id, QR: true}, Questions: []api.Question{exA()}}
	for _, b := range last {
		m.Answers = append(m.Answers, api.Record{Name: ex, Type: api.A, Class: api.IN, TTL: ttl, Data: "\x0A\x00\x00" + string([]byte{b})})
	}
	return forwarder.Event{Kind: forwarder.Reply, From: u, Data: encode(t, m)}
}

// with is a reply with a changed message.
func with(t *testing.T, u int, id uint16, change func(m *api.Msg)) forwarder.Event {
	t.Helper()
	m := api.Msg{Head: api.Head{ID: id, QR: true}, Questions: []api.Question{exA()}}
	change(&m)
	return forwarder.Event{Kind: forwarder.Reply, From: u, Data: encode(t, m)}
}

// answered is the reply to the query with an ID: 10.0.0.last, with a TTL.
func answered(id, last, ttl byte) string {
	return "\x00" + string([]byte{id}) + "\x81\x80\x00\x01\x00\x01\x00\x00\x00\x00" + query[12:] + "\xC0\x0C\x00\x01\x00\x01\x00\x00\x00" + string([]byte{ttl}) + "\x00\x04\x0A\x00\x00" + string([]byte{last})
}

func counts(t *testing.T, f *forwarder.Forwarder, want ...int) {
	t.Helper()
	if got := f.Counts(); !slices.Equal(got, want) {
		t.Errorf("counts %v, not %v", got, want)
	}
}

func TestP31_2Example(t *testing.T) {
	f := example(t)
	do(t, f, asks(7, query), toUp(t, 1, 5), toUp(t, 2, 6))
	if f.Draws() != 4 || !slices.Equal(f.Under(), []api.Question{exA()}) || f.Waits(exA()) != 1 {
		t.Error(f.Draws(), f.Under())
	}
	other := f.Copy()
	do(t, f, says(t, 1, 5, 9, 1))
	do(t, f, says(t, 2, 6, 5, 1), toClient(7, answered(7, 1, 5)))
	if len(f.Under()) != 0 || f.Waits(exA()) != 0 || !slices.Equal(f.Kept(), []api.Question{exA()}) {
		t.Error(f.Under(), f.Kept())
	}
	do(t, f, ticks(2))
	do(t, f, asks(8, "\x00\x09"+query[2:]), toClient(8, answered(9, 1, 3)))
	counts(t, f, 2, 0, 1, 1, 0, 0, 0, 2, 0, 0, 0, 2)
	do(t, other, says(t, 1, 5, 9, 1))
	do(t, other, says(t, 2, 6, 5, 2), toUp(t, 0, 8))
	do(t, other, says(t, 0, 8, 7, 2), toClient(7, answered(7, 2, 5)))
	b := other.Book()
	if b.Score(0) != 100 || b.Score(1) != 90 || b.Score(2) != 100 {
		t.Error(b.Score(0), b.Score(1), b.Score(2))
	}
}

func TestP31_2Silence(t *testing.T) {
	f := example(t)
	do(t, f, asks(7, query), toUp(t, 1, 5), toUp(t, 2, 6))
	do(t, f, ticks(1))
	do(t, f, ticks(1), toUp(t, 0, 8))
	do(t, f, ticks(2))
	do(t, f, ticks(1), toUp(t, 1, 9), toUp(t, 2, 10))
	do(t, f, ticks(1))
	do(t, f, ticks(1), toUp(t, 0, 11))
	do(t, f, ticks(2))
	do(t, f, ticks(1), toClient(7, fail))
	b := f.Book()
	if b.Score(0) != 100 || b.Score(1) != 98 || b.Score(2) != 98 || f.Now() != 10 {
		t.Error(b.Score(0), b.Score(1), b.Score(2))
	}
	counts(t, f, 1, 0, 0, 0, 1, 0, 0, 6, 0, 0, 0, 0)
	// None of its IDs is outstanding any more.
	for u, id := range []uint16{11, 9, 10} {
		do(t, f, says(t, u, id, 5, 1))
	}
	counts(t, f, 1, 0, 0, 0, 1, 0, 0, 6, 3, 0, 0, 0)
	// All at once.
	f = example(t)
	do(t, f, asks(7, query), toUp(t, 1, 5), toUp(t, 2, 6))
	do(t, f, ticks(api.MaxTicks), toUp(t, 0, 8), toUp(t, 1, 9), toUp(t, 2, 10), toUp(t, 0, 11), toClient(7, fail))
	if f.Now() != api.MaxTicks {
		t.Error(f.Now())
	}
}

func TestP31_1New(t *testing.T) {
	f := fresh(t, base())
	counts(t, f, 0, 0, 0, 0, 0, 0, 0, 0, 0, 0, 0, 0)
	b := f.Book()
	if f.Now() != 0 || f.Draws() != 0 || len(f.Kept()) != 0 || len(f.Under()) != 0 || b.Len() != 3 || len(b.May()) != 3 || b.Score(2) != 100 {
		t.Error("not new")
	}
	bad := base()
	bad.Ups = 4
	for _, c := range []api.Config{bad, {}} {
		for _, first := range [][]uint64{nil, make([]uint64, 300)} {
			if f, e := forwarder.New(c, 0, first); f != nil || e != api.ErrArg {
				t.Error(e)
			}
		}
	}
	if f, e := forwarder.New(base(), 0, make([]uint64, 257)); f != nil || e != api.ErrLong {
		t.Error(e)
	}
	fresh(t, base(), make([]uint64, 256)...)
	// A seed, and the numbers before it.
	f, _ = forwarder.New(base(), 0, []uint64{0})
	out, _ := f.Do(asks(7, query))
	if len(out) != 2 || out[0].Data[:2] != "\x65\xF4" { // the third draw, the second one of the seed
		t.Errorf("%+v", out)
	}
	// What is handed in is not kept.
	first := []uint64{0, 0, 5, 6}
	c := base()
	c.Zones = []api.Zone{{Name: ex, Policy: api.Refuse}}
	f, _ = forwarder.New(c, 0, first)
	first[0], c.Zones[0].Name = 1, "\x01a\x00"
	do(t, f, asks(7, query), toClient(7, fail[:3]+"\x85"+fail[4:]))
	c.Zones[0].Name = "bad"
	if out, _ := f.Do(asks(7, encode(t, api.Msg{Questions: []api.Question{{Name: "\x01a\x00", Type: api.A, Class: api.IN}}}))); len(out) != 2 {
		t.Errorf("%+v", out)
	}
}

func TestP31_2Errors(t *testing.T) {
	f := fresh(t, base())
	do(t, f, ticks(10))
	for _, x := range []forwarder.Event{
		{}, {Kind: 4}, {Kind: 255}, asks(-1, query), asks(65536, query), asks(math.MaxInt, query), asks(math.MinInt, ""),
		{Kind: forwarder.Reply, From: 3}, {Kind: forwarder.Reply, From: -1}, {Kind: forwarder.Reply, From: math.MaxInt},
		ticks(-1), ticks(api.MaxTicks - 9), ticks(math.MaxInt64), ticks(math.MinInt64),
	} {
		if out, e := f.Do(x); len(out) != 0 || e != api.ErrArg {
			t.Error(x, out, e)
		}
	}
	counts(t, f, 0, 0, 0, 0, 0, 0, 0, 0, 0, 0, 0, 0)
	if f.Now() != 10 {
		t.Error(f.Now())
	}
	do(t, f, asks(65535, ""))
	do(t, f, forwarder.Event{Kind: forwarder.Reply, From: 2})
	do(t, f, forwarder.Event{Kind: forwarder.Tick, From: -5, N: api.MaxTicks - 10, Data: "ignored"})
	do(t, f, ticks(0))
	if _, e := f.Do(ticks(1)); e != api.ErrArg || f.Now() != api.MaxTicks {
		t.Error(e)
	}
	do(t, f, forwarder.Event{Kind: forwarder.Client, From: 1, N: -4})
	counts(t, f, 2, 2, 0, 0, 0, 0, 0, 0, 1, 0, 0, 0)
}

func TestP31_3ZeroAndNil(t *testing.T) {
	var zero forwarder.Forwarder
	var none *forwarder.Forwarder
	for _, f := range []*forwarder.Forwarder{&zero, none} {
		for _, x := range []forwarder.Event{{}, asks(7, query), ticks(1), {Kind: forwarder.Reply}} {
			if out, e := f.Do(x); len(out) != 0 || e != api.ErrNil {
				t.Error(e)
			}
		}
		if len(f.Counts()) != 0 || f.Now() != 0 || f.Draws() != 0 || len(f.Kept()) != 0 || len(f.Under()) != 0 || f.Waits(exA()) != 0 || f.Book() != nil || f.Copy() != nil {
			t.Error("something of nothing")
		}
	}
}

func TestP31_2Codes(t *testing.T) {
	c := base()
	c.Zones = []api.Zone{{Name: "\x03bad\x00", Policy: api.Refuse}, {Name: "\x02ok\x03bad\x00", Policy: api.Strict}}
	f := fresh(t, c)
	empty := strings.Repeat("\x00", 12)
	do(t, f, asks(1, empty), toClient(1, "\x00\x00\x80\x81"+empty[4:]))
	do(t, f, asks(2, "\x00\x07\x11"+query[3:]), toClient(2, "\x00\x07\x91\x84"+empty[4:]))
	any := typed(query, 0xFF)
	do(t, f, asks(3, any), toClient(3, "\x00\x07\x81\x85"+any[4:]))
	in := func(n string) string {
		return encode(t, api.Msg{Questions: []api.Question{{Name: n, Type: api.A, Class: api.IN}}})
	}
	for _, n := range []string{"\x03bad\x00", "\x01x\x03BAD\x00"} {
		s := in(n)
		do(t, f, asks(4, s), toClient(4, s[:2]+"\x80\x85"+s[4:]))
	}
	if out, _ := f.Do(asks(4, in("\x01x\x02ok\x03bad\x00"))); len(out) != 2 || !out[0].Up {
		t.Error(out)
	}
	do(t, f, asks(5, "\x00\x07\x81"+query[3:]))
	do(t, f, asks(5, query[:11]))
	counts(t, f, 8, 2, 0, 0, 0, 5, 0, 2, 0, 0, 0, 0)
}

func TestP31_2Joining(t *testing.T) {
	c := base()
	c.Waiters, c.Flights = 2, 1
	f := fresh(t, c, 0, 0, 5, 6)
	do(t, f, asks(7, query), toUp(t, 1, 5), toUp(t, 2, 6))
	do(t, f, asks(9, "\x00\x01"+query[2:12]+"\x02EX\x00\x00\x01\x00\x01"))
	if f.Waits(exA()) != 2 || f.Draws() != 4 {
		t.Error(f.Waits(exA()))
	}
	do(t, f, asks(8, query), toClient(8, fail))
	// No more than one question at a time.
	do(t, f, asks(8, typed(query, 0x1C)), toClient(8, typed(fail, 0x1C)))
	if f.Draws() != 4 {
		t.Error("draws for a question that was not put")
	}
	do(t, f, says(t, 1, 5, 9, 1))
	up := answered(1, 1, 9)
	do(t, f, says(t, 2, 6, 9, 1), toClient(7, answered(7, 1, 9)), toClient(9, "\x00\x01"+up[2:12]+"\x02EX\x00\x00\x01\x00\x01"+ex+up[22:]))
	counts(t, f, 4, 0, 0, 2, 2, 0, 1, 2, 0, 0, 0, 2)
}

func TestP31_2Bad(t *testing.T) {
	c := base()
	c.Limit = 95
	f := fresh(t, c, 0, 0, 5, 6, 8)
	do(t, f, ticks(3))
	do(t, f, asks(7, query), toUp(t, 1, 5), toUp(t, 2, 6))
	// Stray: too short, or an ID that is not outstanding there.
	for _, s := range []string{"", "\x00", "\x00\x06", "\x05\x00", "\x00\x07" + query[2:]} {
		do(t, f, forwarder.Event{Kind: forwarder.Reply, From: 1, Data: s})
	}
	do(t, f, says(t, 0, 5, 9, 1))
	counts(t, f, 1, 0, 0, 0, 0, 0, 0, 2, 6, 0, 0, 0)
	if f.Book().Score(1) != 100 {
		t.Error("a stray one counts as dissent")
	}
	// Bad: the upstream dissents, and stays open.
	do(t, f, forwarder.Event{Kind: forwarder.Reply, From: 1, Data: "\x00\x05"})
	b := f.Book()
	if at, is := b.Due(); b.Score(1) != 90 || !b.Rests(1) || !is || at != 103 {
		t.Error(b.Score(1), at)
	}
	do(t, f, with(t, 1, 5, func(m *api.Msg) { m.QR = false }))
	do(t, f, with(t, 1, 5, func(m *api.Msg) { m.Questions[0].Type = 2 }))
	if b := f.Book(); b.Score(1) != 70 {
		t.Error(b.Score(1))
	}
	// Though it is suspended, it stays in the list, and its vote counts.
	do(t, f, says(t, 2, 6, 9, 1))
	do(t, f, says(t, 1, 5, 9, 1), toClient(7, answered(7, 1, 9)))
	counts(t, f, 1, 0, 0, 1, 0, 0, 0, 2, 6, 3, 0, 2)
	if b := f.Book(); b.Score(1) != 71 || b.Score(2) != 100 {
		t.Error(b.Score(1))
	}
	// The next question is put to the others only.
	out, _ := f.Do(asks(7, typed(query, 0x1C)))
	if len(out) != 2 || out[0].To == 1 || out[1].To == 1 || f.Draws() != 2+2+1+2 {
		t.Error(out, f.Draws())
	}
	f.Do(ticks(99))
	if b := f.Book(); !b.Rests(1) {
		t.Error("lifted too soon")
	}
	do(t, f, ticks(1))
	if b := f.Book(); b.Rests(1) || b.Score(1) != 95 || !b.Trial(1) {
		t.Error("not lifted")
	}
}

func TestP31_2Passes(t *testing.T) {
	f := example(t)
	do(t, f, asks(7, query), toUp(t, 1, 5), toUp(t, 2, 6))
	do(t, f, with(t, 1, 5, func(m *api.Msg) { m.TC = true }), toUp(t, 0, 8))
	do(t, f, says(t, 1, 5, 9, 1)) // stray now
	do(t, f, with(t, 2, 6, func(m *api.Msg) { m.Code = 2 }), toClient(7, fail))
	counts(t, f, 1, 0, 0, 0, 1, 0, 0, 3, 1, 0, 2, 0)
	if b := f.Book(); b.Score(0) != 100 || b.Score(1) != 100 || b.Score(2) != 100 {
		t.Error("passes count")
	}
}

func TestP31_2Clamped(t *testing.T) {
	for _, x := range []struct {
		limit, cache int
		ttl          uint32
		want         byte
		kept         int
	}{{3600, 8, 9, 9, 1}, {7, 8, 9, 7, 1}, {0, 8, 9, 0, 0}, {3600, 8, 0, 0, 0}, {3600, 0, 9, 9, 0}, {3600, 8, 1 << 31, 0, 0}, {3600, 8, 1, 1, 1}} {
		c := base()
		c.TTL, c.Cache = x.limit, x.cache
		f := fresh(t, c, 0, 0, 5, 6)
		do(t, f, asks(7, query), toUp(t, 1, 5), toUp(t, 2, 6))
		do(t, f, says(t, 1, 5, x.ttl, 1))
		do(t, f, says(t, 2, 6, 100, 1), toClient(7, answered(7, 1, x.want)))
		if len(f.Kept()) != x.kept {
			t.Error(x, f.Kept())
		}
		if x.kept == 0 {
			continue
		}
		do(t, f, ticks(int64(x.want)-1))
		do(t, f, asks(7, query), toClient(7, answered(7, 1, 1)))
		do(t, f, ticks(1))
		if len(f.Kept()) != 0 {
			t.Error("kept too long")
		}
		if out, _ := f.Do(asks(7, query)); len(out) != 2 {
			t.Error(out)
		}
	}
}

func TestP31_2Policies(t *testing.T) {
	c := base()
	c.Zones = []api.Zone{{Name: "\x00", Policy: api.Trusted, Trust: 4}, {Name: ex, Policy: api.Union}}
	f := fresh(t, c, 0, 0, 5, 6)
	do(t, f, asks(7, query), toUp(t, 1, 5), toUp(t, 2, 6))
	do(t, f, says(t, 1, 5, 9, 2))
	two := answered(7, 1, 5)
	do(t, f, says(t, 2, 6, 5, 1), toClient(7, two[:7]+"\x02"+two[8:]+"\xC0\x0C\x00\x01\x00\x01\x00\x00\x00\x05\x00\x04\x0A\x00\x00\x02"))
	if b := f.Book(); b.Score(1) != 100 || b.Score(2) != 100 {
		t.Error("somebody agreed or dissented")
	}
	com := encode(t, api.Msg{Questions: []api.Question{{Name: "\x03com\x00", Type: api.A, Class: api.IN}}})
	out, _ := f.Do(asks(7, com))
	if len(out) != 1 || out[0].To != 2 {
		t.Error(out)
	}
	// Nobody may be asked: the draws are used all the same.
	c.Zones = c.Zones[:1]
	c.Limit = 95
	f = fresh(t, c, 2, 1, 77)
	do(t, f, asks(7, query), toUp(t, 2, 77))
	do(t, f, with(t, 2, 77, func(m *api.Msg) { m.QR = false }))
	if b := f.Book(); !b.Rests(2) {
		t.Error("not suspended")
	}
	do(t, f, ticks(10), toUp(t, 2, 0xCDAF), toClient(7, fail))
	draws := f.Draws()
	do(t, f, asks(7, query), toClient(7, fail))
	if f.Draws() != draws+1 || len(f.Under()) != 0 {
		t.Error(f.Draws(), draws)
	}
}

func TestP31_2IDs(t *testing.T) {
	// The same draw twice at one upstream: the next ID.
	f := fresh(t, base(), 0, 0, 65535, 65535, 0, 0, 65535, 1<<16+65535)
	do(t, f, asks(7, query), toUp(t, 1, 65535), toUp(t, 2, 65535))
	out, _ := f.Do(asks(7, typed(query, 0x1C)))
	if len(out) != 2 || out[0].Data[:2] != "\x00\x00" || out[1].Data[:2] != "\x00\x00" {
		t.Errorf("%+v", out)
	}
	// A reply with the ID of the other question is bad.
	do(t, f, says(t, 1, 0, 5, 1))
	counts(t, f, 2, 0, 0, 0, 0, 0, 0, 4, 0, 1, 0, 0)
}

func TestP31_3Queries(t *testing.T) {
	f := example(t)
	f.Do(asks(7, query))
	f.Do(asks(7, typed(query, 0x1C)))
	v6 := exA()
	v6.Type = api.AAAA
	if l := f.Under(); !slices.Equal(l, []api.Question{exA(), v6}) {
		t.Error(l)
	}
	if f.Waits(api.Question{Name: "\x02EX\x00", Type: api.A, Class: api.IN}) != 1 || f.Waits(api.Question{Name: "bad"}) != 0 || f.Waits(api.Question{Name: ex, Type: 2, Class: 1}) != 0 {
		t.Error("waits")
	}
	l := f.Counts()
	l[0] = 99
	f.Book().Dissent(0, 0)
	f.Under()[0].Name = "changed"
	if f.Counts()[0] != 2 || f.Book().Score(0) != 100 || f.Under()[0].Name != ex {
		t.Error("shared memory")
	}
}

func TestP31_3Saturate(t *testing.T) {
	f := fresh(t, base())
	for range 65540 {
		f.Do(asks(1, ""))
	}
	counts(t, f, 65535, 65535, 0, 0, 0, 0, 0, 0, 0, 0, 0, 0)
}

// state tells everything that can be asked of a forwarder.
func state(f *forwarder.Forwarder) string {
	b := f.Book()
	s := fmt.Sprint(f.Now(), f.Draws(), f.Kept(), f.Under(), b.May())
	for _, q := range f.Under() {
		s += fmt.Sprint(" ", f.Waits(q))
	}
	for u := range b.Len() {
		x, y, z := b.Counts(u)
		s += fmt.Sprint(" ", b.Score(u), x, y, z, b.Rests(u), b.Trial(u))
	}
	at, is := b.Due()
	return s + fmt.Sprint(at, is)
}

func TestP31_9NoEffect(t *testing.T) {
	f := example(t)
	f.Do(asks(7, query))
	f.Do(ticks(1))
	was, c := state(f), f.Counts()
	for _, x := range []forwarder.Event{asks(1, ""), asks(1, query[:11]), asks(2, "\x00\x07\x80"+query[3:]), {Kind: forwarder.Reply, From: 1}, {Kind: forwarder.Reply, From: 1, Data: "\x00"}, ticks(0)} {
		do(t, f, x)
		if state(f) != was {
			t.Error("changed by", x)
		}
	}
	for _, x := range []forwarder.Event{{}, asks(-1, query), ticks(-1), {Kind: forwarder.Reply, From: 9, Data: "\x00\x05"}} {
		n := f.Counts()
		if _, e := f.Do(x); e == api.OK || state(f) != was || !slices.Equal(n, f.Counts()) {
			t.Error("changed by", x)
		}
	}
	c[0], c[1], c[8] = c[0]+3, c[1]+3, c[8]+2
	counts(t, f, c...)
}

func TestP31_11Independence(t *testing.T) {
	f := example(t)
	f.Do(asks(7, query))
	f.Do(says(t, 1, 5, 9, 1))
	was := state(f)
	c := f.Copy()
	if state(c) != was {
		t.Error("the copy is another one")
	}
	c.Do(says(t, 2, 6, 5, 2))
	c.Do(asks(8, query))
	c.Do(ticks(40))
	c.Do(asks(8, typed(query, 0x1C)))
	if state(f) != was {
		t.Error("changed by the copy")
	}
	do(t, f, says(t, 2, 6, 5, 1), toClient(7, answered(7, 1, 5)))
}
