package forwarder

import (
	"hustings/answer"
	"hustings/api"
	"hustings/ask"
	"hustings/flight"
	"hustings/heard"
	"hustings/intake"
	"hustings/order"
)

// client handles a datagram of a client.
func (f *Forwarder) client(e fromClient) []Out {
	f.count(countClients)
	c := intake.Look(e.data)
	switch c.Kind {
	case intake.Drop:
		f.count(countDropped)
		return nil
	case intake.Tell:
		return f.tell(e.client, c, c.Code)
	}
	return f.question(flight.Waiter{Client: e.client, Data: e.data}, c)
}

// tell answers a client with a code.
func (f *Forwarder) tell(client int, c intake.Came, code int) []Out {
	counter := countOther
	if code == int(api.ServFail) {
		counter = countServFail
	}
	f.count(counter)
	return []Out{{To: client, Data: answer.Code(c, code, f.config.Size)}}
}

// fail answers a client with ServFail.
func (f *Forwarder) fail(client int, c intake.Came) []Out {
	return f.tell(client, c, int(api.ServFail))
}

// question handles a client's question.
func (f *Forwarder) question(w flight.Waiter, c intake.Came) []Out {
	z := f.zones.Find(c.Question.Name)
	if z.Policy == api.Refuse {
		return f.tell(w.Client, c, int(api.Refused))
	}
	if v, left, is := f.cache.Find(c.Question, f.now); is {
		f.count(countCached)
		return []Out{{To: w.Client, Data: answer.Of(c, v, uint32(left), f.config.Size)}}
	}
	if slot, is := f.flights.Find(c.Question); is {
		if f.flights.Join(slot, w) != api.OK {
			return f.fail(w.Client, c)
		}
		f.count(countJoined)
		return nil
	}
	if f.flights.Len() >= f.config.Flights {
		return f.fail(w.Client, c)
	}
	return f.begin(w, c, z)
}

// begin puts a client's question to the upstreams.
func (f *Forwarder) begin(w flight.Waiter, c intake.Came, z api.Zone) []Out {
	a, did, e := ask.New(c.Question, z, order.Order(f.book, f.tape), f.config, f.now)
	if e != api.OK {
		return f.fail(w.Client, c)
	}
	slot, e := f.flights.Begin(c.Question)
	if e != api.OK {
		return f.fail(w.Client, c)
	}
	f.flights.Join(slot, w)
	f.asks[slot] = a
	return f.process(slot, did)
}

// process does what follows from what the inquiry of a slot did.
func (f *Forwarder) process(slot int, did ask.Did) []Out {
	for _, u := range did.Gone {
		f.book.Silent(u)
		f.pending.FreeAt(slot, u)
	}
	q, _ := f.flights.Question(slot)
	var out []Out
	for _, u := range did.Sends {
		id, e := f.pending.Draw(u, slot, f.tape)
		if e != api.OK {
			continue
		}
		data, _ := heard.Query(q, id, f.config.Size)
		f.count(countQueries)
		out = append(out, Out{Up: true, To: u, Data: data})
	}
	if did.Over {
		out = append(out, f.finish(slot, q, did)...)
	}
	return out
}

// finish ends the question of a slot.
func (f *Forwarder) finish(slot int, q api.Question, did ask.Did) []Out {
	f.pending.Free(slot)
	for _, u := range did.Agree {
		f.book.Agree(u)
	}
	for _, u := range did.Dissent {
		f.book.Dissent(u, f.now)
	}
	f.asks[slot] = nil
	waiters, _ := f.flights.End(slot)
	time := min(did.Time, uint32(f.config.TTL))
	var out []Out
	for _, w := range waiters {
		c := intake.Look(w.Data)
		if !did.Done {
			out = append(out, f.fail(w.Client, c)...)
			continue
		}
		f.count(countDecided)
		out = append(out, Out{To: w.Client, Data: answer.Of(c, did.Verdict, time, f.config.Size)})
	}
	if did.Done && time > 0 {
		f.cache.Keep(q, did.Verdict, int64(time), f.now)
	}
	return out
}

// upstream handles a datagram of an upstream.
func (f *Forwarder) upstream(e fromUpstream) []Out {
	slot, is := f.slotOf(e)
	if !is {
		f.count(countStray)
		return nil
	}
	q, _ := f.flights.Question(slot)
	r := heard.Look(q, e.data)
	if r.Kind == heard.Bad {
		f.count(countBad)
		f.book.Dissent(e.up, f.now)
		return nil
	}
	f.pending.FreeAt(slot, e.up)
	if r.Kind == heard.Pass {
		f.count(countPasses)
		return f.process(slot, f.asks[slot].Pass(e.up, f.now))
	}
	f.count(countVotes)
	return f.process(slot, f.asks[slot].Vote(e.up, r.Verdict, r.Time, f.now))
}

// slotOf returns the slot of the question that a datagram of an upstream belongs to; false if it is stray.
func (f *Forwarder) slotOf(e fromUpstream) (int, bool) {
	if len(e.data) < 2 {
		return 0, false
	}
	return f.pending.Find(e.up, uint16(e.data[0])<<8|uint16(e.data[1]))
}

// pass lets ticks pass. At ticks at which nothing is due nothing happens, so it moves on to those at which something is.
func (f *Forwarder) pass(ticks int64) []Out {
	var out []Out
	for end := f.now + ticks; f.now < end; {
		f.now = min(f.due(), end)
		out = append(out, f.tick()...)
	}
	return out
}

// due returns the least tick from now on at which something may happen.
func (f *Forwarder) due() int64 {
	least := int64(api.MaxTicks)
	note := func(at int64, is bool) {
		if is {
			least = min(least, at)
		}
	}
	note(f.book.Due())
	note(f.cache.Due())
	for _, slot := range f.flights.Row() {
		note(f.asks[slot].Due())
	}
	return max(least, f.now+1)
}

// tick does what is due at the current tick.
func (f *Forwarder) tick() []Out {
	f.book.Back(f.now)
	f.cache.Expire(f.now)
	var out []Out
	for _, slot := range f.flights.Row() {
		out = append(out, f.process(slot, f.asks[slot].Tick(f.now))...)
	}
	return out
}
