package forwarder_test

import (
	"math/rand"
	"slices"
	"strings"
	"testing"

	"hustings/api"
	"hustings/forwarder"
	"hustings/heard"
	"hustings/intake"
	"hustings/name"
	"hustings/resolver"
	"hustings/verdict"
	"hustings/wire"
)

func soa(at string, ttl uint32) api.Record {
	return api.Record{Name: at, Type: api.SOA, Class: api.IN, TTL: ttl, Data: "\x00\x00" + strings.Repeat("\x00", 19) + "\x07"}
}

func a(at string, ttl uint32, last byte) api.Record {
	return api.Record{Name: at, Type: api.A, Class: api.IN, TTL: ttl, Data: "\x0A\x00\x00" + string([]byte{last})}
}

func cname(at string, to string) api.Record {
	return api.Record{Name: at, Type: api.CNAME, Class: api.IN, TTL: 9, Data: to}
}

func truth(t *testing.T, l ...api.Record) *resolver.Resolver {
	t.Helper()
	r, e := resolver.New(l)
	if e != api.OK {
		t.Fatal(e)
	}
	return r
}

// verdictIn reads back what a client was told.
func verdictIn(t *testing.T, q api.Question, data string) (api.Verdict, uint32, api.Msg) {
	t.Helper()
	m, e := wire.Decode(data)
	if e != api.OK {
		t.Fatal(e)
	}
	v, time, _ := verdict.Of(q, m)
	return v, time, m
}

// TestP31_4Truth lets all upstreams reply as one resolver does.
func TestP31_4Truth(t *testing.T) {
	res := truth(t, soa("\x01a\x00", 8), a("\x01c\x01a\x00", 20, 1), a("\x01c\x01a\x00", 5, 2), cname("\x01w\x01a\x00", "\x01c\x01a\x00"), cname("\x01l\x01a\x00", "\x01l\x01a\x00"))
	r := rand.New(rand.NewSource(314))
	for range 300 {
		c := randomConfig(r)
		c.Zones, c.Cache, c.TTL = nil, 3, 1+r.Intn(30)
		f, _ := forwarder.New(c, r.Uint64(), nil)
		q := api.Question{Name: []string{"\x01c\x01a\x00", "\x01w\x01a\x00", "\x01x\x01a\x00", "\x01a\x00", "\x01l\x01a\x00", "\x01q\x00"}[r.Intn(6)], Type: api.A, Class: api.IN}
		s := encode(t, api.Msg{Head: api.Head{ID: 3}, Questions: []api.Question{q}})
		ask, _ := heard.Query(q, 1, 4096)
		want := heard.Look(q, res.Answer(ask))
		out, _ := f.Do(asks(1, s))
		var last []forwarder.Out
		for len(out) > 0 && out[0].Up {
			o := out[0]
			out = out[1:]
			last, _ = f.Do(forwarder.Event{Kind: forwarder.Reply, From: o.To, Data: res.Answer(o.Data)})
			for _, x := range last {
				if x.Up {
					out = append(out, x)
				}
			}
			if len(last) > 0 && !last[len(last)-1].Up {
				break
			}
		}
		if len(last) == 0 {
			t.Fatal("no answer")
		}
		v, time, m := verdictIn(t, q, last[len(last)-1].Data)
		if want.Kind == heard.Pass {
			if m.Code != 2 || len(f.Kept()) > 0 {
				t.Error("not ServFail", m)
			}
			continue
		}
		clamped := min(want.Time, uint32(c.TTL))
		_, has := verdict.End(q, v)
		if !verdict.Same(v, want.Verdict) || has && time != clamped {
			t.Errorf("%v %d, not %v %d", v, time, want.Verdict, clamped)
		}
		k := int64(r.Intn(10))
		f.Do(ticks(k))
		out, _ = f.Do(asks(1, s))
		if int64(clamped) > k {
			if len(out) != 1 || out[0].Up {
				t.Fatal("not from the cache", out)
			}
			v, time, _ := verdictIn(t, q, out[0].Data)
			if !verdict.Same(v, want.Verdict) || has && int64(time) != int64(clamped)-k {
				t.Errorf("%v %d, not %v", v, time, want.Verdict)
			}
		} else if len(out) == 0 || !out[0].Up {
			t.Error("from the cache", out)
		}
	}
}

// waiting is a client datagram that was not answered yet.
type waiting struct {
	came     intake.Came
	data     string
	deadline int64
}

// world plays a script in which F upstreams lie, and holds the promises P2, P3 and P9 against what goes out.
type world struct {
	t       *testing.T
	r       *rand.Rand
	c       api.Config
	f       *forwarder.Forwarder
	truth   *resolver.Resolver
	liars   []int
	queries []sent
	waits   map[int]waiting // by client, of which each asks once
	voted   map[string]bool // what the truthful ones have voted, by name
	strict  int
}

func (w *world) do(x forwarder.Event) {
	out, e := w.f.Do(x)
	if e != api.OK {
		w.t.Fatal(e)
	}
	for _, o := range out {
		if o.Up {
			w.queries = append(w.queries, sent{o.To, o.Data})
			m, e := wire.Decode(o.Data)
			if e != api.OK || len(m.Questions) != 1 || m.QR {
				w.t.Errorf("%q is no query", o.Data)
			}
			continue
		}
		k, is := w.waits[o.To]
		delete(w.waits, o.To)
		if !is || k.deadline < w.f.Now() {
			w.t.Error("answered twice, or late", o.To)
		}
		w.check(k, o.Data)
	}
	for client, k := range w.waits {
		if k.deadline <= w.f.Now() {
			w.t.Error("not answered in time", client)
		}
	}
}

// check is P9 and P2.
func (w *world) check(k waiting, data string) {
	m, e := wire.Decode(data)
	if e != api.OK || data[:2] != k.data[:2] || len(data) > intake.Room(k.came, w.c.Size) || !m.QR || m.HasEdns != k.came.HasEdns {
		w.t.Errorf("%q: %q", k.data, data)
	}
	if k.came.HasQuestion && (len(m.Questions) != 1 || m.Questions[0] != k.came.Question) || !k.came.HasQuestion && len(m.Questions) > 0 {
		w.t.Errorf("%q: %q", k.data, data)
	}
	if m.Code != 0 && m.Code != 3 || m.Edns.Ext != 0 || m.TC {
		return
	}
	w.strict++
	q := m.Questions[0]
	v, _, e := verdict.Of(q, m)
	if e != api.OK || !w.voted[name.Fold(q.Name)+verdict.Key(v)] {
		w.t.Errorf("%q: not what a truthful one voted: %v", k.data, v)
	}
}

func (w *world) ask(client int) {
	s := randomQuery(w.r)
	c := intake.Look(s)
	if c.Kind != intake.Drop {
		w.waits[client] = waiting{came: c, data: s, deadline: w.f.Now() + int64(w.c.Deadline)}
	}
	w.do(asks(client, s))
}

func (w *world) reply() {
	if len(w.queries) == 0 {
		return
	}
	x := w.queries[max(0, len(w.queries)-1-w.r.Intn(9))]
	data := w.truth.Answer(x.data)
	if slices.Contains(w.liars, x.up) {
		if data = randomReply(w.r, x.data); w.r.Intn(2) == 0 {
			m, _ := wire.Decode(x.data)
			m.QR, m.Answers = true, []api.Record{a(m.Questions[0].Name, 30, 66)}
			data, _ = wire.Encode(m)
		}
	} else {
		m, _ := wire.Decode(x.data)
		q := m.Questions[0]
		if got := heard.Look(q, data); got.Kind == heard.Vote {
			w.voted[q.Name+verdict.Key(got.Verdict)] = true
		}
	}
	w.do(forwarder.Event{Kind: forwarder.Reply, From: x.up, Data: data})
}

func TestP31_5to7World(t *testing.T) {
	r := rand.New(rand.NewSource(315))
	strict := 0
	for range 300 {
		c := randomConfig(r)
		c.Zones = nil
		f, _ := forwarder.New(c, r.Uint64(), nil)
		w := &world{t: t, r: r, c: c, f: f, liars: r.Perm(c.Ups)[:c.Ups/2], waits: map[int]waiting{}, voted: map[string]bool{}}
		w.truth = truth(t, soa("\x00", 8), a("\x01a\x00", 20, 1), a("\x01b\x00", 5, 2), cname("\x01b\x01a\x00", "\x01b\x00"))
		for i := range 120 {
			switch r.Intn(8) {
			case 0, 1:
				w.ask(i)
			case 2:
				w.do(ticks(1))
			default:
				w.reply()
			}
		}
		for range c.Deadline {
			w.do(ticks(1))
		}
		if len(w.waits) > 0 || len(f.Under()) > 0 {
			t.Error("not answered", len(w.waits))
		}
		strict += w.strict
		if t.Failed() {
			t.Fatalf("%+v", c)
		}
	}
	if strict < 500 {
		t.Error("too few answers", strict)
	}
}

// TestP31_4Progress is P4: F + 1 right votes in time decide, whatever the others do.
func TestP31_4Progress(t *testing.T) {
	r := rand.New(rand.NewSource(316))
	for range 300 {
		c := randomConfig(r)
		c.Zones = nil
		f, _ := forwarder.New(c, r.Uint64(), nil)
		res := truth(t, a("\x01a\x00", 20, 1))
		good := r.Perm(c.Ups)[:c.Ups/2+1]
		s := encode(t, api.Msg{Head: api.Head{ID: 3}, Questions: []api.Question{{Name: "\x01a\x00", Type: api.A, Class: api.IN}}})
		out, _ := f.Do(asks(1, s))
		var answer string
		for len(f.Under()) > 0 {
			if len(out) == 0 {
				out, _ = f.Do(ticks(1))
				continue
			}
			o := out[0]
			out = out[1:]
			var more []forwarder.Out
			if slices.Contains(good, o.To) {
				more, _ = f.Do(forwarder.Event{Kind: forwarder.Reply, From: o.To, Data: res.Answer(o.Data)})
			} else if r.Intn(2) == 0 {
				more, _ = f.Do(forwarder.Event{Kind: forwarder.Reply, From: o.To, Data: randomReply(r, o.Data)})
			}
			out = append(out, more...)
			if n := len(out); n > 0 && !out[n-1].Up {
				answer = out[n-1].Data
			}
		}
		m, e := wire.Decode(answer)
		if e != api.OK || m.Code != 0 || len(m.Answers) != 1 || m.Answers[0].Data != "\x0A\x00\x00\x01" {
			t.Fatalf("%+v: %v", c, m)
		}
	}
}
