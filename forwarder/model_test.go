package forwarder_test

import (
	"math/rand"
	"slices"
	"strings"
	"testing"

	"hustings/answer"
	"hustings/api"
	"hustings/draw"
	"hustings/forwarder"
	"hustings/heard"
	"hustings/intake"
	"hustings/merge"
	"hustings/name"
	"hustings/tally"
	"hustings/verdict"
	"hustings/wire"
)

// The model is sections S5 to S9 of the document, tick by tick and without the layers between.

type modelUp struct {
	score        int
	rests, trial bool
	until        int64
}

type modelAsked struct {
	times int
	last  int64
	open  bool
	ids   []uint16
}

type modelWaiter struct {
	client int
	data   string
}

type modelFlight struct {
	q       api.Question
	policy  uint8
	list    []int
	want    int
	begin   int64
	ups     map[int]*modelAsked
	votes   []tally.Vote
	waiters []modelWaiter
}

type modelKept struct {
	q     api.Question
	v     api.Verdict
	until int64
}

type model struct {
	c       api.Config
	now     int64
	tape    *draw.Tape
	ups     []modelUp
	flights []*modelFlight
	cache   []modelKept // least recently used first
	counts  [12]int
	out     []forwarder.Out
}

func newModel(c api.Config, seed uint64, first []uint64) *model {
	m := &model{c: c, tape: draw.New(seed, first)}
	for range c.Ups {
		m.ups = append(m.ups, modelUp{score: 100})
	}
	return m
}

func (m *model) do(x forwarder.Event) []forwarder.Out {
	m.out = nil
	switch x.Kind {
	case forwarder.Client:
		m.client(x.From, x.Data)
	case forwarder.Reply:
		m.reply(x.From, x.Data)
	case forwarder.Tick:
		for range x.N {
			m.tick()
		}
	}
	return m.out
}

func (m *model) code(client int, c intake.Came, code int) {
	if code == 2 {
		m.counts[4]++
	} else {
		m.counts[5]++
	}
	m.out = append(m.out, forwarder.Out{To: client, Data: answer.Code(c, code, m.c.Size)})
}

func (m *model) zone(n string) api.Zone {
	best := api.Zone{Name: "\x00", Policy: api.Strict}
	labels := -1
	for _, z := range m.c.Zones {
		if name.Within(n, z.Name) && len(name.Labels(z.Name)) > labels {
			best, labels = z, len(name.Labels(z.Name))
		}
	}
	return best
}

func (m *model) client(client int, data string) {
	m.counts[0]++
	c := intake.Look(data)
	if c.Kind == intake.Drop {
		m.counts[1]++
		return
	}
	if c.Kind == intake.Tell {
		m.code(client, c, c.Code)
		return
	}
	q := c.Question
	q.Name = name.Fold(q.Name)
	z := m.zone(q.Name)
	if z.Policy == api.Refuse {
		m.code(client, c, 5)
		return
	}
	for i, k := range m.cache {
		if k.q == q {
			m.cache = append(slices.Delete(m.cache, i, i+1), k)
			m.counts[2]++
			m.out = append(m.out, forwarder.Out{To: client, Data: answer.Of(c, k.v, uint32(k.until-m.now), m.c.Size)})
			return
		}
	}
	for _, f := range m.flights {
		if f.q == q {
			if len(f.waiters) >= m.c.Waiters {
				m.code(client, c, 2)
				return
			}
			m.counts[6]++
			f.waiters = append(f.waiters, modelWaiter{client, data})
			return
		}
	}
	if len(m.flights) >= m.c.Flights {
		m.code(client, c, 2)
		return
	}
	f := &modelFlight{q: q, policy: z.Policy, want: m.c.Ups/2 + 1, begin: m.now, ups: map[int]*modelAsked{}}
	for _, u := range m.order() {
		if z.Policy != api.Trusted || z.Trust>>u&1 == 1 {
			f.list = append(f.list, u)
		}
	}
	if z.Policy == api.Trusted {
		f.want = 1
	}
	if len(f.list) == 0 {
		m.code(client, c, 2)
		return
	}
	f.waiters = []modelWaiter{{client, data}}
	m.flights = append(m.flights, f)
	for range f.want {
		m.next(f)
	}
	m.evaluate(f)
}

// order is whom to ask first: a shuffle, then an insertion sort that keeps equal ones in place.
func (m *model) order() []int {
	var l []int
	for u := range m.ups {
		if !m.ups[u].rests {
			l = append(l, u)
		}
	}
	for i := len(l) - 1; i > 0; i-- {
		j := int(m.tape.Next() % uint64(i+1))
		l[i], l[j] = l[j], l[i]
	}
	rank := func(u int) int {
		if m.ups[u].trial {
			return m.ups[u].score
		}
		return m.ups[u].score + 1000
	}
	for i := range l {
		for j := i; j > 0 && rank(l[j]) > rank(l[j-1]); j-- {
			l[j], l[j-1] = l[j-1], l[j]
		}
	}
	return l
}

// next asks the next one of the list, if there is one.
func (m *model) next(f *modelFlight) bool {
	for _, u := range f.list {
		if f.ups[u] == nil {
			f.ups[u] = &modelAsked{}
			m.ask(f, u)
			return true
		}
	}
	return false
}

func (m *model) ask(f *modelFlight, u int) {
	id := uint16(m.tape.Next())
	for m.owner(u, id) != nil {
		id++
	}
	x := f.ups[u]
	x.times++
	x.last, x.open, x.ids = m.now, true, append(x.ids, id)
	s, _ := heard.Query(f.q, id, m.c.Size)
	m.counts[7]++
	m.out = append(m.out, forwarder.Out{Up: true, To: u, Data: s})
}

// owner is the question for which an ID is outstanding at an upstream.
func (m *model) owner(u int, id uint16) *modelFlight {
	for _, f := range m.flights {
		if x := f.ups[u]; x != nil && slices.Contains(x.ids, id) {
			return f
		}
	}
	return nil
}

// most is the greatest number of votes for the same verdict, and who cast them.
func most(votes []tally.Vote) (best []tally.Vote) {
	for _, v := range votes {
		var same []tally.Vote
		for _, w := range votes {
			if verdict.Same(v.Verdict, w.Verdict) {
				same = append(same, w)
			}
		}
		if len(same) > len(best) {
			best = same
		}
	}
	return best
}

func (m *model) evaluate(f *modelFlight) {
	count := len(f.votes)
	if f.policy == api.Strict {
		count = len(most(f.votes))
	}
	if count >= f.want {
		v, time, _ := merge.Union(f.q, f.votes)
		if f.policy == api.Strict {
			v, time, _ = merge.Union(f.q, most(f.votes))
			m.judge(f, v)
		}
		m.over(f, &v, time)
		return
	}
	for {
		hope := count
		for _, x := range f.ups {
			if x.open {
				hope++
			}
		}
		if hope >= f.want {
			return
		}
		if !m.next(f) {
			m.over(f, nil, 0)
			return
		}
	}
}

func (m *model) judge(f *modelFlight, v api.Verdict) {
	for u := range m.ups {
		for _, x := range f.votes {
			if x.Up == u && verdict.Same(x.Verdict, v) {
				m.agree(u)
			}
		}
	}
	for u := range m.ups {
		for _, x := range f.votes {
			if x.Up == u && !verdict.Same(x.Verdict, v) {
				m.dissent(u)
			}
		}
	}
}

func (m *model) agree(u int) {
	x := &m.ups[u]
	x.score = min(100, x.score+1)
	if x.score >= min(m.c.Limit+10, 100) {
		x.trial = false
	}
}

func (m *model) dissent(u int) {
	x := &m.ups[u]
	x.score = max(0, x.score-10)
	left := 0
	for w := range m.ups {
		if w != u && !m.ups[w].rests {
			left++
		}
	}
	if x.score < m.c.Limit && !x.rests && left >= m.c.Ups/2+1 {
		x.rests, x.trial, x.until = true, false, m.now+int64(m.c.Rest)
	}
}

// over ends a question; without a verdict it has failed.
func (m *model) over(f *modelFlight, v *api.Verdict, time uint32) {
	m.flights = slices.DeleteFunc(m.flights, func(x *modelFlight) bool { return x == f })
	time = min(time, uint32(m.c.TTL))
	for _, w := range f.waiters {
		c := intake.Look(w.data)
		if v == nil {
			m.code(w.client, c, 2)
			continue
		}
		m.counts[3]++
		m.out = append(m.out, forwarder.Out{To: w.client, Data: answer.Of(c, *v, time, m.c.Size)})
	}
	if v != nil && time > 0 && m.c.Cache > 0 {
		if len(m.cache) == m.c.Cache {
			m.cache = m.cache[1:]
		}
		m.cache = append(m.cache, modelKept{f.q, *v, m.now + int64(time)})
	}
}

func (m *model) reply(u int, data string) {
	var f *modelFlight
	if len(data) >= 2 {
		f = m.owner(u, uint16(data[0])<<8|uint16(data[1]))
	}
	if f == nil {
		m.counts[8]++
		return
	}
	r := heard.Look(f.q, data)
	if r.Kind == heard.Bad {
		m.counts[9]++
		m.dissent(u)
		return
	}
	f.ups[u].open, f.ups[u].ids = false, nil
	if r.Kind == heard.Pass {
		m.counts[10]++
	} else {
		m.counts[11]++
		f.votes = append(f.votes, tally.Vote{Up: u, Verdict: r.Verdict, Time: r.Time})
	}
	m.evaluate(f)
}

func (m *model) tick() {
	m.now++
	for u := range m.ups {
		if x := &m.ups[u]; x.rests && x.until == m.now {
			x.rests, x.score = false, m.c.Limit
			x.trial = x.score < min(m.c.Limit+10, 100)
		}
	}
	m.cache = slices.DeleteFunc(m.cache, func(k modelKept) bool { return k.until <= m.now })
	for _, f := range slices.Clone(m.flights) {
		if m.now-f.begin >= int64(m.c.Deadline) {
			m.over(f, nil, 0)
			continue
		}
		for _, u := range f.list {
			x := f.ups[u]
			if x == nil || !x.open || m.now-x.last != int64(m.c.Wait) {
				continue
			}
			if x.times < m.c.Tries {
				m.ask(f, u)
				continue
			}
			x.open, x.ids = false, nil
			m.ups[u].score = max(0, m.ups[u].score-2)
		}
		if (m.now-f.begin)%int64(m.c.Hedge) == 0 {
			m.next(f)
		}
		m.evaluate(f)
	}
}

// compare holds the state of a forwarder against the model.
func (m *model) compare(t *testing.T, f *forwarder.Forwarder) {
	t.Helper()
	var under, kept []api.Question
	for _, x := range m.flights {
		under = append(under, x.q)
		if f.Waits(x.q) != len(x.waiters) {
			t.Error("waits", f.Waits(x.q), len(x.waiters))
		}
	}
	for _, k := range m.cache {
		kept = append(kept, k.q)
	}
	b := f.Book()
	for u, x := range m.ups {
		if b.Score(u) != x.score || b.Rests(u) != x.rests || b.Trial(u) != x.trial {
			t.Error("upstream", u, b.Score(u), x)
		}
	}
	if !slices.Equal(f.Counts(), m.counts[:]) || f.Now() != m.now || f.Draws() != m.tape.Used() || !slices.Equal(f.Under(), under) || !slices.Equal(f.Kept(), kept) {
		t.Error(f.Counts(), m.counts, f.Now(), m.now, f.Draws(), m.tape.Used(), f.Under(), under, f.Kept(), kept)
	}
	// P5 and P7.
	if len(b.May()) < m.c.Ups/2+1 || len(f.Kept()) > m.c.Cache || len(f.Under()) > m.c.Flights {
		t.Error("bounds")
	}
}

func randomConfig(r *rand.Rand) api.Config {
	c := api.Config{Ups: 1 + 2*r.Intn(5), Hedge: 1 + r.Intn(6), Wait: 1 + r.Intn(8), Tries: 1 + r.Intn(3), Rest: 1 + r.Intn(40), Limit: 50 + r.Intn(51), Cache: r.Intn(4), Flights: 1 + r.Intn(3), Waiters: 1 + r.Intn(3), TTL: r.Intn(30), Size: 512 + r.Intn(1000)}
	c.Deadline = c.Ups/2*c.Hedge + c.Tries*c.Wait + r.Intn(10)
	for _, z := range []api.Zone{{Name: "\x01a\x00", Policy: api.Union}, {Name: "\x01b\x00", Policy: api.Trusted, Trust: 1}, {Name: "\x01b\x01a\x00", Policy: api.Refuse}, {Name: "\x00", Policy: api.Strict}} {
		if r.Intn(3) == 0 {
			if z.Policy == api.Trusted {
				z.Trust = uint16(1 + r.Intn(1<<c.Ups-1))
			}
			c.Zones = append(c.Zones, z)
		}
	}
	return c
}

var pool = []string{"\x01a\x00", "\x01b\x00", "\x01B\x01a\x00", "\x01c\x00", "\x01C\x00"}

func randomQuery(r *rand.Rand) string {
	m := api.Msg{Head: api.Head{ID: uint16(r.Uint32()), RD: r.Intn(2) == 0}, Questions: []api.Question{{Name: pool[r.Intn(len(pool))], Type: api.A, Class: api.IN}}}
	if r.Intn(10) == 0 {
		m.Questions[0].Type = uint16(r.Intn(300))
	}
	if r.Intn(2) == 0 {
		m.HasEdns, m.Edns = true, api.Edns{Size: uint16(r.Intn(3000)), Version: uint8(r.Intn(9) / 8)}
	}
	m.QR = r.Intn(30) == 0
	s, _ := wire.Encode(m)
	if r.Intn(12) == 0 {
		b := []byte(s)
		b[r.Intn(len(b))] ^= 1 << r.Intn(8)
		s = string(b[:len(b)-r.Intn(2)])
	}
	return s
}

// randomReply is a reply to a query that was sent: mostly one of few verdicts, sometimes a pass, or bad.
func randomReply(r *rand.Rand, query string) string {
	m, _ := wire.Decode(query)
	m.QR, m.HasEdns, m.Edns = true, r.Intn(3) == 0, api.Edns{}
	n := m.Questions[0].Name
	ttl := uint32(r.Intn(40))
	data := []string{"1234", "1235"}
	switch r.Intn(10) {
	case 0:
		m.Code = 3
		m.Authority = []api.Record{{Name: "\x00", Type: api.SOA, Class: api.IN, TTL: ttl, Data: "\x00\x00" + strings.Repeat("\x00", 19) + "\x09"}}
	case 1:
		m.Answers = []api.Record{{Name: n, Type: api.CNAME, Class: api.IN, TTL: ttl, Data: "\x01z\x00"}, {Name: "\x01z\x00", Type: api.A, Class: api.IN, TTL: 9, Data: "1234"}}
	case 2:
		m.Answers = []api.Record{{Name: n, Type: api.A, Class: api.IN, TTL: ttl, Data: data[r.Intn(2)]}, {Name: n, Type: api.A, Class: api.IN, TTL: 9, Data: "1236"}}
	case 3:
		m.Code = uint8(r.Intn(6))
	case 4:
		m.TC = r.Intn(2) == 0
	default:
		m.Answers = []api.Record{{Name: n, Type: api.A, Class: api.IN, TTL: ttl, Data: data[r.Intn(8)/7]}}
	}
	s, _ := wire.Encode(m)
	if r.Intn(10) == 0 {
		b := []byte(s)
		b[r.Intn(len(b))] ^= 1 << r.Intn(8)
		s = string(b)
	}
	return s
}

// sent is a query that went to an upstream.
type sent struct {
	up   int
	data string
}

func randomEvent(r *rand.Rand, c api.Config, queries []sent) forwarder.Event {
	switch k := r.Intn(10); {
	case k < 3:
		return asks(r.Intn(5), randomQuery(r))
	case k < 8 && len(queries) > 0:
		last := queries[max(0, len(queries)-1-r.Intn(8))]
		if r.Intn(20) == 0 {
			last.up = r.Intn(c.Ups)
		}
		return forwarder.Event{Kind: forwarder.Reply, From: last.up, Data: randomReply(r, last.data)}
	}
	return ticks(int64(r.Intn(4) * r.Intn(4)))
}

func TestP31_2Model(t *testing.T) {
	r := rand.New(rand.NewSource(31))
	var total [12]int
	for range 400 {
		c := randomConfig(r)
		first := make([]uint64, r.Intn(40))
		for i := range first {
			first[i] = uint64(r.Intn(4)) // IDs that collide
		}
		seed := r.Uint64()
		f, e := forwarder.New(c, seed, first)
		if e != api.OK {
			t.Fatal(c, e)
		}
		m := newModel(c, seed, first)
		parts := f.Copy()
		var queries []sent
		for range 100 {
			x := randomEvent(r, c, queries)
			out, e := f.Do(x)
			want := m.do(x)
			if e != api.OK || !slices.Equal(out, want) {
				t.Fatalf("%+v\n%+v: %+v %v, not %+v", c, x, out, e, want)
			}
			for _, o := range out {
				if o.Up {
					queries = append(queries, sent{o.To, o.Data})
				}
			}
			m.compare(t, f)
			checkParts(t, r, parts, x, out)
		}
		if state(parts) != state(f) || !slices.Equal(parts.Counts(), f.Counts()) {
			t.Fatal("in parts")
		}
		for i, n := range f.Counts() {
			total[i] += n
		}
		if t.Failed() {
			t.Fatalf("%+v", c)
		}
	}
	for i, n := range total {
		if n < 100 {
			t.Error("too few of", i, total)
		}
	}
}

// checkParts is P31.8: the same ticks in two parts have the same result. It also sends from another client, for P31.10.
func checkParts(t *testing.T, r *rand.Rand, f *forwarder.Forwarder, x forwarder.Event, want []forwarder.Out) {
	t.Helper()
	var out []forwarder.Out
	switch x.Kind {
	case forwarder.Tick:
		part := r.Int63n(x.N + 1)
		out, _ = f.Do(ticks(part))
		rest, _ := f.Do(ticks(x.N - part))
		out = append(out, rest...)
	case forwarder.Client:
		x.From += 100
		out, _ = f.Do(x)
	default:
		out, _ = f.Do(x)
	}
	for i := range out {
		if !out[i].Up {
			out[i].To -= 100
		}
	}
	if !slices.Equal(out, want) {
		t.Errorf("%+v: %+v, not %+v", x, out, want)
	}
}
