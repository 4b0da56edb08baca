package ask_test

import (
	"math"
	"math/rand"
	"reflect"
	"slices"
	"strings"
	"testing"

	"hustings/api"
	"hustings/ask"
	"hustings/merge"
	"hustings/tally"
	"hustings/verdict"
)

const ex = "\x02ex\x00"

func q() api.Question { return api.Question{Name: "\x02eX\x00", Type: api.A, Class: api.IN} }

func base() api.Config {
	return api.Config{Ups: 3, Deadline: 20, Hedge: 10, Wait: 5, Tries: 1, Rest: 100, Limit: 50, Cache: 8, Flights: 4, Waiters: 4, TTL: 3600, Size: 1232}
}

func zone(policy uint8, trust uint16) api.Zone {
	return api.Zone{Name: ex, Policy: policy, Trust: trust}
}

// say is a verdict of addresses that begin with these bytes, in increasing order.
func say(data ...string) api.Verdict {
	s := api.Set{Name: ex, Type: api.A, Class: api.IN}
	for _, d := range data {
		s.Data = append(s.Data, d+strings.Repeat("\x00", 4-len(d)))
	}
	return api.Verdict{Sets: []api.Set{s}}
}

func same(a, b ask.Did) bool {
	return slices.Equal(a.Sends, b.Sends) && slices.Equal(a.Gone, b.Gone) && a.Over == b.Over && a.Done == b.Done && verdict.Same(a.Verdict, b.Verdict) &&
		a.Time == b.Time && slices.Equal(a.Agree, b.Agree) && slices.Equal(a.Dissent, b.Dissent)
}

func did(t *testing.T, got, want ask.Did) {
	t.Helper()
	if !same(got, want) {
		t.Errorf("%+v, not %+v", got, want)
	}
}

func start(t *testing.T, z api.Zone, list []int, c api.Config, now int64, want ask.Did) *ask.Ask {
	t.Helper()
	a, d, e := ask.New(q(), z, list, c, now)
	if e != api.OK || a == nil {
		t.Fatal(e)
	}
	did(t, d, want)
	return a
}

func due(t *testing.T, a *ask.Ask, want int64) {
	t.Helper()
	at, is := a.Due()
	if !is && at == 0 {
		at = -1
	}
	if at != want {
		t.Errorf("due %d, not %d", at, want)
	}
}

func sends(l ...int) ask.Did { return ask.Did{Sends: l} }

func TestP26_1Example(t *testing.T) {
	a := start(t, zone(api.Strict, 0), []int{2, 0, 1}, base(), 100, sends(2, 0))
	did(t, a.Vote(2, say("x"), 9, 101), ask.Did{})
	b := a.Copy()
	did(t, a.Vote(0, say("y"), 1, 102), sends(1))
	c := a.Copy()
	did(t, a.Vote(1, say("x"), 5, 103), ask.Did{Over: true, Done: true, Verdict: say("x"), Time: 5, Agree: []int{1, 2}, Dissent: []int{0}})
	did(t, c.Pass(1, 103), ask.Did{Over: true})
	did(t, b.Vote(0, say("x"), 11, 103), ask.Did{Over: true, Done: true, Verdict: say("x"), Time: 9, Agree: []int{0, 2}})
	for _, x := range []*ask.Ask{a, b, c} {
		if !x.Over() {
			t.Error("not over")
		}
		due(t, x, -1)
		did(t, x.Vote(1, say("x"), 1, 104), ask.Did{})
		did(t, x.Pass(1, 104), ask.Did{})
		did(t, x.Tick(500), ask.Did{})
	}
}

func TestP26_1Errors(t *testing.T) {
	good := zone(api.Strict, 0)
	bad := base()
	bad.Ups = 4
	long := make([]int, 20)
	for i, x := range []struct {
		q    api.Question
		z    api.Zone
		list []int
		c    api.Config
		now  int64
		e    api.Errno
	}{
		{q(), good, []int{0}, bad, 0, api.ErrArg}, {q(), good, nil, bad, 0, api.ErrArg}, {q(), good, []int{0}, api.Config{}, 0, api.ErrArg},
		{api.Question{Name: "bad"}, good, []int{0}, base(), 0, api.ErrArg}, {api.Question{}, good, nil, base(), 0, api.ErrArg},
		{q(), zone(api.Refuse, 0), []int{0}, base(), 0, api.ErrArg}, {q(), zone(0, 0), []int{0}, base(), 0, api.ErrArg}, {q(), zone(5, 0), nil, base(), 0, api.ErrArg},
		{q(), good, []int{3}, base(), 0, api.ErrArg}, {q(), good, []int{-1}, base(), 0, api.ErrArg}, {q(), good, []int{0, 1, 0}, base(), 0, api.ErrArg}, {q(), good, long, base(), 0, api.ErrArg},
		{q(), zone(api.Trusted, 1), []int{0, 3}, base(), 0, api.ErrArg}, {q(), zone(api.Trusted, 1), []int{0, 1, 1}, base(), 0, api.ErrArg}, {q(), zone(api.Trusted, 1), []int{1, 1}, base(), 0, api.ErrArg},
		{q(), good, []int{0}, base(), -1, api.ErrArg}, {q(), good, []int{0}, base(), api.MaxTicks + 1, api.ErrArg}, {q(), good, nil, base(), -1, api.ErrArg},
		{q(), good, nil, base(), 0, api.ErrNone}, {q(), zone(api.Trusted, 1), []int{1, 2}, base(), 0, api.ErrNone}, {q(), zone(api.Trusted, 0), []int{0, 1, 2}, base(), 0, api.ErrNone},
	} {
		a, d, e := ask.New(x.q, x.z, x.list, x.c, x.now)
		if a != nil || e != x.e || !same(d, ask.Did{}) {
			t.Errorf("%d: %v %v, not %v", i, d, e, x.e)
		}
	}
	start(t, good, []int{0, 1}, base(), api.MaxTicks, sends(0, 1))
}

func TestP26_1TooFew(t *testing.T) {
	// Whoever is left is asked, though it cannot suffice.
	a := start(t, zone(api.Strict, 0), []int{1}, base(), 0, ask.Did{Sends: []int{1}, Over: true})
	if !a.Over() || a.Open() != 1 {
		t.Error(a.Open())
	}
	start(t, zone(api.Union, 0), []int{1}, base(), 0, ask.Did{Sends: []int{1}, Over: true})
	five := base()
	five.Ups, five.Deadline = 5, 100
	a = start(t, zone(api.Strict, 0), []int{4, 3, 2, 1, 0}, five, 0, sends(4, 3, 2))
	did(t, a.Vote(4, say("x"), 1, 1), ask.Did{})
	did(t, a.Vote(3, say("y"), 1, 1), sends(1))
	did(t, a.Vote(2, say("z"), 1, 1), sends(0))
	did(t, a.Vote(1, say("x"), 1, 1), ask.Did{})
	did(t, a.Vote(0, say("z"), 1, 1), ask.Did{Over: true})
	if a.Open() != 0 {
		t.Error(a.Open())
	}
	// Several are asked at once.
	a = start(t, zone(api.Strict, 0), []int{4, 3, 2, 1, 0}, five, 0, sends(4, 3, 2))
	did(t, a.Pass(4, 1), sends(1))
	did(t, a.Pass(3, 1), sends(0))
	did(t, a.Tick(5), ask.Did{Gone: []int{2}, Over: true})
	if a.Open() != 2 {
		t.Error(a.Open())
	}
}

func TestP26_1Ticks(t *testing.T) {
	a := start(t, zone(api.Strict, 0), []int{2, 0, 1}, base(), 100, sends(2, 0))
	due(t, a, 105)
	did(t, a.Tick(104), ask.Did{})
	did(t, a.Tick(105), ask.Did{Gone: []int{2, 0}, Sends: []int{1}, Over: true})
	slow := base()
	slow.Wait, slow.Deadline = 15, 25
	a = start(t, zone(api.Strict, 0), []int{2, 0, 1}, slow, 100, sends(2, 0))
	due(t, a, 110)
	did(t, a.Tick(110), sends(1))
	due(t, a, 115)
	did(t, a.Tick(50), ask.Did{}) // counts as the latest tick
	did(t, a.Vote(1, say("x"), 3, 112), ask.Did{})
	did(t, a.Tick(115), ask.Did{Gone: []int{2, 0}, Over: true})
	// At the deadline, nothing else happens.
	slow.Wait = 5
	slow.Tries = 3
	a = start(t, zone(api.Strict, 0), []int{2, 0, 1}, slow, 100, sends(2, 0))
	did(t, a.Vote(2, say("x"), 1, 104), ask.Did{})
	did(t, a.Tick(105), sends(0))
	did(t, a.Tick(110), sends(0, 1))
	did(t, a.Tick(115), ask.Did{Gone: []int{0}, Sends: []int{1}})
	did(t, a.Tick(120), sends(1))
	due(t, a, 125)
	b := a.Copy()
	did(t, a.Tick(125), ask.Did{Over: true})
	did(t, b.Tick(math.MaxInt64), ask.Did{Over: true})
	if a.Open() != 1 || !a.Over() || !b.Over() {
		t.Error(a.Open())
	}
}

func TestP26_1BallotAfterDeadline(t *testing.T) {
	a := start(t, zone(api.Strict, 0), []int{2, 0, 1}, base(), 0, sends(2, 0))
	did(t, a.Vote(2, say("x"), 1, 20), ask.Did{})
	due(t, a, 21)
	b := a.Copy()
	did(t, a.Vote(0, say("x"), 1, 300), ask.Did{Over: true, Done: true, Verdict: say("x"), Time: 1, Agree: []int{0, 2}})
	did(t, b.Vote(0, say("y"), 1, 300), sends(1))
	due(t, b, 301)
	did(t, b.Tick(3), ask.Did{Over: true})
}

func TestP26_1NotOpen(t *testing.T) {
	a := start(t, zone(api.Strict, 0), []int{2, 0, 1}, base(), 0, sends(2, 0))
	// Their tick does not count.
	for _, u := range []int{1, 3, -1, 9, math.MaxInt, math.MinInt} {
		did(t, a.Vote(u, say("x"), 1, 500), ask.Did{})
		did(t, a.Pass(u, 500), ask.Did{})
	}
	due(t, a, 5)
	did(t, a.Vote(2, say("x"), 1, 1), ask.Did{})
	did(t, a.Vote(2, say("y"), 1, 1), ask.Did{})
	did(t, a.Pass(2, 1), ask.Did{})
	due(t, a, 5)
	did(t, a.Vote(0, say("x"), 2, 1), ask.Did{Over: true, Done: true, Verdict: say("x"), Time: 1, Agree: []int{0, 2}})
	// A pass is a ballot, too.
	a = start(t, zone(api.Strict, 0), []int{2, 0, 1}, base(), 0, sends(2, 0))
	did(t, a.Pass(2, 1), sends(1))
	did(t, a.Vote(2, say("x"), 1, 1), ask.Did{})
	did(t, a.Vote(0, say("x"), 1, 1), ask.Did{})
	did(t, a.Vote(1, say("x"), 1, 1), ask.Did{Over: true, Done: true, Verdict: say("x"), Time: 1, Agree: []int{0, 1}})
}

func TestP26_8OtherPolicies(t *testing.T) {
	// Trusted: those of the list with their bit set, and the first vote.
	a := start(t, zone(api.Trusted, 5), []int{2, 1, 0}, base(), 0, sends(2))
	did(t, a.Pass(2, 1), sends(0))
	did(t, a.Vote(0, say("x"), 7, 2), ask.Did{Over: true, Done: true, Verdict: say("x"), Time: 7})
	a = start(t, zone(api.Trusted, 0xFFFA), []int{2, 1, 0}, base(), 0, sends(1))
	did(t, a.Pass(1, 1), ask.Did{Over: true})
	a = start(t, zone(api.Trusted, 7), []int{2, 1, 0}, base(), 0, sends(2))
	did(t, a.Tick(5), ask.Did{Gone: []int{2}, Sends: []int{1}})
	did(t, a.Tick(10), ask.Did{Gone: []int{1}, Sends: []int{0}})
	did(t, a.Vote(0, api.Verdict{Code: 3}, 0, 12), ask.Did{Over: true, Done: true, Verdict: api.Verdict{Code: 3}})
	// Union: F + 1 votes, whatever they are.
	a = start(t, zone(api.Union, 7), []int{2, 1, 0}, base(), 0, sends(2, 1))
	did(t, a.Vote(2, say("b"), 7, 2), ask.Did{})
	both := say("a", "b")
	c := a.Copy()
	did(t, a.Vote(1, say("a"), 5, 2), ask.Did{Over: true, Done: true, Verdict: both, Time: 5})
	did(t, c.Pass(1, 2), sends(0))
	did(t, c.Pass(0, 2), ask.Did{Over: true})
	one := base()
	one.Ups = 1
	for _, z := range []api.Zone{zone(api.Strict, 0), zone(api.Union, 0), zone(api.Trusted, 1)} {
		a = start(t, z, []int{0}, one, 0, sends(0))
		want := ask.Did{Over: true, Done: true, Verdict: say("x"), Time: 4}
		if z.Policy == api.Strict {
			want.Agree = []int{0}
		}
		did(t, a.Vote(0, say("x"), 4, 0), want)
	}
}

func TestP26_3ZeroAndNil(t *testing.T) {
	var zero ask.Ask
	var none *ask.Ask
	for _, a := range []*ask.Ask{&zero, none, zero.Copy()} {
		if !a.Over() || a.Open() != 0 {
			t.Error("not over")
		}
		did(t, a.Vote(0, say("x"), 1, 1), ask.Did{})
		did(t, a.Pass(0, 1), ask.Did{})
		did(t, a.Tick(1), ask.Did{})
		due(t, a, -1)
	}
	if none.Copy() != nil || zero.Copy() == nil || !reflect.DeepEqual(zero.Copy(), &zero) {
		t.Error("copy")
	}
}

func TestP26_3Due(t *testing.T) {
	// A ballot has moved the latest tick past what the plan has due.
	a := start(t, zone(api.Strict, 0), []int{2, 0, 1}, base(), 0, sends(2, 0))
	did(t, a.Vote(2, say("x"), 1, 8), ask.Did{})
	due(t, a, 9)
	did(t, a.Tick(1), ask.Did{Gone: []int{0}, Sends: []int{1}})
	due(t, a, 13)
	// Near the end of all ticks.
	end := base()
	a = start(t, zone(api.Strict, 0), []int{2, 0, 1}, end, api.MaxTicks-5, sends(2, 0))
	due(t, a, api.MaxTicks)
	a = start(t, zone(api.Strict, 0), []int{2, 0, 1}, end, api.MaxTicks-4, sends(2, 0))
	due(t, a, -1)
	did(t, a.Tick(math.MaxInt64), ask.Did{})
	end.Hedge, end.Wait, end.Deadline = 100, 1000, 1100
	a = start(t, zone(api.Strict, 0), []int{2, 0, 1}, end, api.MaxTicks-1100, sends(2, 0))
	did(t, a.Tick(api.MaxTicks-1000), sends(1))
	did(t, a.Tick(math.MaxInt64), ask.Did{Over: true})
	// The deadline comes before the plan.
	soon := base()
	soon.Hedge, soon.Wait, soon.Deadline = 6, 5, 11
	a = start(t, zone(api.Strict, 0), []int{2, 0, 1}, soon, 0, sends(2, 0))
	did(t, a.Vote(0, say("x"), 1, 1), ask.Did{})
	did(t, a.Tick(5), ask.Did{Gone: []int{2}, Sends: []int{1}})
	due(t, a, 10)
	soon.Tries, soon.Deadline = 2, 16
	a = start(t, zone(api.Strict, 0), []int{2, 0, 1}, soon, 0, sends(2, 0))
	did(t, a.Pass(0, 12), sends(1))
	due(t, a, 13)
	did(t, a.Tick(13), sends(2))
	due(t, a, 16)
}

// run plays a random inquiry and checks what holds of each.
func run(t *testing.T, r *rand.Rand) bool {
	c := base()
	c.Ups = 1 + 2*r.Intn(4)
	f := c.Ups / 2
	c.Hedge, c.Wait, c.Tries = 1+r.Intn(6), 1+r.Intn(6), 1+r.Intn(3)
	c.Deadline = f*c.Hedge + c.Tries*c.Wait + r.Intn(8)
	z := zone(uint8(1+r.Intn(3)), 0)
	if z.Policy == api.Trusted {
		z.Trust = uint16(r.Intn(1 << c.Ups))
	}
	list := r.Perm(c.Ups)[:r.Intn(c.Ups+1)]
	begin := int64(r.Intn(50))
	a, d, e := ask.New(q(), z, list, c, begin)
	if e != api.OK {
		return false
	}
	want := f + 1
	if z.Policy == api.Trusted {
		want = 1
	}
	asked, closed := map[int]int{}, map[int]bool{}
	var votes []tally.Vote
	overs := 0
	note := func(d ask.Did) {
		for _, u := range d.Gone {
			if closed[u] || asked[u] != c.Tries {
				t.Error("gone", u, asked[u])
			}
			closed[u] = true
		}
		for _, u := range d.Sends {
			asked[u]++
			if closed[u] || asked[u] > c.Tries || !slices.Contains(list, u) || z.Policy == api.Trusted && z.Trust>>u&1 == 0 {
				t.Error("asked", u, asked[u])
			}
		}
		if d.Over {
			overs++
		}
	}
	note(d)
	now := begin
	for step := 0; step < 300 && !a.Over(); step++ {
		if r.Intn(2) == 0 {
			checkDue(t, a, now)
			now++
			d := a.Tick(now)
			if (now >= begin+int64(c.Deadline)) && !d.Over || d.Done {
				t.Error("tick", d)
			}
			note(d)
			continue
		}
		u := r.Intn(c.Ups)
		open := asked[u] > 0 && !closed[u]
		var d ask.Did
		if r.Intn(4) == 0 {
			d = a.Pass(u, now)
		} else {
			v := tally.Vote{Up: u, Verdict: say(string([]byte{'x' + byte(r.Intn(2))})), Time: uint32(r.Intn(9))}
			d = a.Vote(u, v.Verdict, v.Time, now)
			if open {
				votes = append(votes, v)
			}
		}
		if !open && !same(d, ask.Did{}) {
			t.Error("not open", u, d)
		}
		closed[u] = closed[u] || open
		note(d)
		checkDecision(t, z.Policy, want, votes, d)
	}
	if !a.Over() || overs != 1 {
		t.Error("not over once", overs)
	}
	return true
}

// checkDue is P26.9 for ticks.
func checkDue(t *testing.T, a *ask.Ask, now int64) {
	t.Helper()
	at, is := a.Due()
	if !is || at <= now {
		t.Error("due", at, is)
		return
	}
	if at-1 > now && !same(a.Copy().Tick(at-1), ask.Did{}) {
		t.Error("before it is due", at)
	}
	if same(a.Copy().Tick(at), ask.Did{}) {
		t.Error("nothing is due at", at)
	}
}

// checkDecision is P26.5 and P26.8 for a ballot.
func checkDecision(t *testing.T, policy uint8, want int, votes []tally.Vote, d ask.Did) {
	t.Helper()
	if policy != api.Strict {
		if d.Done != (len(votes) == want) {
			t.Error("decided", d, votes)
		}
		if d.Done {
			v, time, _ := merge.Union(q(), votes)
			if !verdict.Same(v, d.Verdict) || time != d.Time || len(d.Agree)+len(d.Dissent) > 0 {
				t.Error(d, v, time)
			}
		}
		return
	}
	said := map[string][]tally.Vote{}
	for _, v := range votes {
		key := verdict.Key(v.Verdict)
		said[key] = append(said[key], v)
	}
	done := false
	for _, l := range said {
		done = done || len(l) == want
	}
	if d.Done != done {
		t.Error("decided", d, votes)
	}
	if !done {
		return
	}
	time := uint32(math.MaxUint32)
	var agree, dissent []int
	for _, v := range votes {
		if verdict.Same(v.Verdict, d.Verdict) {
			agree, time = append(agree, v.Up), min(time, v.Time)
		} else {
			dissent = append(dissent, v.Up)
		}
	}
	slices.Sort(agree)
	slices.Sort(dissent)
	if !slices.Equal(agree, d.Agree) || !slices.Equal(dissent, d.Dissent) || time != d.Time || len(agree) != want {
		t.Error(d, votes)
	}
}

func TestP26_4to8Random(t *testing.T) {
	r := rand.New(rand.NewSource(26))
	ran := 0
	for range 3000 {
		if run(t, r) {
			ran++
		}
	}
	if ran < 1000 {
		t.Error(ran)
	}
}

func TestP26_6Progress(t *testing.T) {
	r := rand.New(rand.NewSource(266))
	for range 300 {
		c := base()
		c.Ups = 1 + 2*r.Intn(5)
		f := c.Ups / 2
		c.Hedge, c.Wait, c.Tries = 1+r.Intn(9), 1+r.Intn(9), 1+r.Intn(3)
		c.Deadline = f*c.Hedge + c.Tries*c.Wait
		list := r.Perm(c.Ups)
		good := r.Perm(c.Ups)[:f+1]
		delay := int64(r.Intn(c.Wait))
		a, d, _ := ask.New(q(), zone(api.Strict, 0), list, c, 0)
		first := map[int]int64{}
		var last ask.Did
		for now := int64(0); !a.Over() && now < 200; now++ {
			if now > 0 {
				d = a.Tick(now)
			}
			for again := true; again && !a.Over(); {
				again = false
				for _, u := range d.Sends {
					if _, is := first[u]; !is {
						first[u] = now
					}
				}
				d.Sends = nil
				for _, u := range list {
					at, is := first[u]
					if is && at+delay == now && slices.Contains(good, u) {
						first[u] = -1000
						last = a.Vote(u, say("good"), 5, now)
						d.Sends = append(d.Sends, last.Sends...)
						again = true
					} else if is && at >= 0 && r.Intn(8) == 0 && !slices.Contains(good, u) {
						first[u] = -1000
						x := a.Vote(u, say(string([]byte{'a' + byte(u)})), 1, now)
						d.Sends = append(d.Sends, x.Sends...)
						again = true
					}
				}
			}
		}
		if !last.Done || !verdict.Same(last.Verdict, say("good")) {
			t.Fatalf("%v %v: not decided: %+v", c, good, last)
		}
	}
}

func TestP26_9Independence(t *testing.T) {
	a := start(t, zone(api.Strict, 0), []int{2, 0, 1}, base(), 0, sends(2, 0))
	c := a.Copy()
	c.Vote(2, say("x"), 1, 3)
	c.Pass(0, 4)
	if a.Open() != 2 || a.Over() {
		t.Error("changed by the copy")
	}
	due(t, a, 5)
	a.Tick(30)
	if c.Over() || c.Open() != 1 {
		t.Error("the copy was changed", c.Open())
	}
	// Neither a list nor a verdict that was handed in is kept.
	list, v := []int{2, 0, 1}, say("x")
	a = start(t, zone(api.Strict, 0), list, base(), 0, sends(2, 0))
	list[2] = 2
	a.Vote(2, v, 1, 0)
	v.Sets[0].Data[0] = "changed"
	did(t, a.Pass(0, 0), sends(1))
	did(t, a.Vote(1, say("x"), 1, 0), ask.Did{Over: true, Done: true, Verdict: say("x"), Time: 1, Agree: []int{1, 2}})
}
