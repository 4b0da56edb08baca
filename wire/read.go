package wire

import (
	"hustings/api"
	"hustings/comp"
	"hustings/cursor"
	"hustings/edns"
	"hustings/head"
	"hustings/rdata"
)

// headSize is the number of bytes of a header.
const headSize = 12

// reader reads a message from its first byte on.
type reader struct {
	text string
	c    *cursor.Cursor
	msg  api.Msg
}

// read returns the message that bytes represent; it panics with a fault.
func read(s string) api.Msg {
	if len(s) > api.MaxMessage {
		panic(fault{api.ErrLong})
	}
	h, counts, e := head.Read(s)
	check(e)
	r := reader{text: s, c: cursor.New(s)}
	check(r.c.Seek(headSize))
	r.msg.Head = h
	for range counts[0] {
		r.msg.Questions = append(r.msg.Questions, r.question())
	}
	r.msg.Answers = r.records(counts[1], false)
	r.msg.Authority = r.records(counts[2], false)
	r.msg.Extra = r.records(counts[3], true)
	if r.c.Left() > 0 {
		panic(fault{api.ErrLong})
	}
	return r.msg
}

func (r *reader) two() uint16 {
	n, e := r.c.Two()
	check(e)
	return n
}

func (r *reader) four() uint32 {
	n, e := r.c.Four()
	check(e)
	return n
}

func (r *reader) name() string {
	n, next, e := comp.Read(r.text, r.c.At())
	check(e)
	check(r.c.Seek(next))
	return n
}

func (r *reader) question() api.Question {
	n := r.name()
	kind := r.two()
	return api.Question{Name: n, Type: kind, Class: r.two()}
}

// records reads n records; only among the additional ones an OPT record may be, which is none of the result.
func (r *reader) records(n int, extra bool) []api.Record {
	var l []api.Record
	for range n {
		x, is := r.record(extra)
		if is {
			l = append(l, x)
		}
	}
	return l
}

// record reads one record; is is false if it was the OPT record.
func (r *reader) record(extra bool) (x api.Record, is bool) {
	x.Name = r.name()
	x.Type = r.two()
	x.Class = r.two()
	x.TTL = r.four()
	size := int(r.two())
	at := r.c.At()
	data, e := r.c.Take(size)
	check(e)
	if x.Type == api.OPT {
		if !extra || r.msg.HasEdns || x.Name != root {
			panic(fault{api.ErrForm})
		}
		r.msg.Edns, e = edns.Read(x.Class, x.TTL, data)
		check(e)
		r.msg.HasEdns = true
		return api.Record{}, false
	}
	x.Data, e = rdata.Read(r.text, at, size, x.Type)
	check(e)
	return x, true
}
