package wire

import (
	"hustings/api"
	"hustings/comp"
	"hustings/cursor"
	"hustings/edns"
	"hustings/head"
	"hustings/rdata"
)

// writer has the bytes of a message so far, and the suffixes in them that may be pointed to.
type writer struct {
	bytes []byte
	table *comp.Table
}

// write returns the bytes of a message; it panics with a fault.
func write(m api.Msg) string {
	if !May(m) {
		panic(fault{api.ErrForm})
	}
	counts := head.Counts{len(m.Questions), len(m.Answers), len(m.Authority), additional(m)}
	first, e := head.Write(m.Head, counts)
	check(e)
	w := writer{bytes: []byte(first), table: comp.New()}
	for _, q := range m.Questions {
		w.question(q)
	}
	for _, l := range [][]api.Record{m.Answers, m.Authority, m.Extra} {
		for _, r := range l {
			w.record(r)
		}
	}
	if m.HasEdns {
		w.opt(m.Edns)
	}
	return string(w.bytes)
}

// fit panics if there are too many bytes; asked after each step, so that not much more than that is ever written.
func (w *writer) fit() {
	if len(w.bytes) > api.MaxMessage {
		panic(fault{api.ErrLong})
	}
}

func (w *writer) two(n uint16) {
	w.bytes = append(w.bytes, cursor.Put2(nil, n)...)
}

func (w *writer) four(n uint32) {
	w.bytes = append(w.bytes, cursor.Put4(nil, n)...)
}

func (w *writer) name(n string) {
	b, e := w.table.Put(w.bytes, n, true, true)
	check(e)
	w.extend(b)
}

// extend takes over what was written behind our bytes into a copy of them; our own memory, unlike that copy, has room to grow.
func (w *writer) extend(b []byte) {
	w.bytes = append(w.bytes, b[len(w.bytes):]...)
}

func (w *writer) question(q api.Question) {
	w.name(q.Name)
	w.two(q.Type)
	w.two(q.Class)
	w.fit()
}

func (w *writer) record(r api.Record) {
	w.name(r.Name)
	w.two(r.Type)
	w.two(r.Class)
	w.four(r.TTL)
	at := len(w.bytes)
	w.two(0) // the length, known once the data is written
	b, e := rdata.Write(w.bytes, w.table, r.Type, r.Data)
	check(e)
	w.extend(b)
	w.fit()
	copy(w.bytes[at:], cursor.Put2(nil, uint16(len(b)-at-2)))
}

func (w *writer) opt(x api.Edns) {
	class, ttl, data, e := edns.Write(x)
	check(e)
	w.bytes = append(w.bytes, root...)
	w.two(api.OPT)
	w.two(class)
	w.four(ttl)
	w.two(uint16(len(data)))
	w.bytes = append(w.bytes, data...)
	w.fit()
}
