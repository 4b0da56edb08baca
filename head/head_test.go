package head_test

import (
	"math"
	"math/rand"
	"testing"

	"hustings/api"
	"hustings/head"
)

// parts is the layout of the flags, spelt out once more: which header has just this bit.
func parts() map[uint16]api.Head {
	return map[uint16]api.Head{
		0x8000: {QR: true}, 0x4000: {Op: 8}, 0x2000: {Op: 4}, 0x1000: {Op: 2}, 0x0800: {Op: 1},
		0x0400: {AA: true}, 0x0200: {TC: true}, 0x0100: {RD: true}, 0x0080: {RA: true},
		0x0040: {Z: true}, 0x0020: {AD: true}, 0x0010: {CD: true},
		0x0008: {Code: 8}, 0x0004: {Code: 4}, 0x0002: {Code: 2}, 0x0001: {Code: 1},
	}
}

func TestP3_1Examples(t *testing.T) {
	s := "\x12\x34\x81\x80\x00\x01\x00\x02\x00\x00\x00\x01"
	want := api.Head{ID: 4660, QR: true, RD: true, RA: true}
	h, c, e := head.Read(s)
	if h != want || c != (head.Counts{1, 2, 0, 1}) || e != api.OK {
		t.Error(h, c, e)
	}
	if b, e := head.Write(want, head.Counts{1, 2, 0, 1}); b != s || e != api.OK {
		t.Errorf("%q %v", b, e)
	}
	h, c, e = head.Read("\x00\x00\x28\x05\x00\x00\x00\x00\x00\x00\x00\x00")
	if h != (api.Head{Op: 5, Code: 5}) || c != (head.Counts{}) || e != api.OK {
		t.Error(h, c, e)
	}
	h, c, e = head.Read("\xFF\xFE\x00\x00\x01\x02\x03\x04\x05\x06\xFF\xFF")
	if h != (api.Head{ID: 0xFFFE}) || c != (head.Counts{0x0102, 0x0304, 0x0506, 0xFFFF}) || e != api.OK {
		t.Error(h, c, e)
	}
}

func TestP3_1WriteWrong(t *testing.T) {
	full := head.Counts{65535, 65535, 65535, 65535}
	if b, e := head.Write(api.Head{Op: 15, Code: 15}, full); b != "\x00\x00\x78\x0F\xFF\xFF\xFF\xFF\xFF\xFF\xFF\xFF" || e != api.OK {
		t.Errorf("%q %v", b, e)
	}
	for _, h := range []api.Head{{Op: 16}, {Code: 16}, {Op: 255}, {Code: 255}, {Op: 32, Code: 0}} {
		if b, e := head.Write(h, head.Counts{}); b != "" || e != api.ErrArg {
			t.Errorf("%q %v", b, e)
		}
	}
	for i := range 4 {
		for _, n := range []int{-1, 65536, math.MinInt, math.MaxInt} {
			c := full
			c[i] = n
			if b, e := head.Write(api.Head{}, c); b != "" || e != api.ErrArg {
				t.Errorf("%v: %q %v", c, b, e)
			}
		}
	}
}

func TestP3_2Flags(t *testing.T) {
	if f, e := head.Flags(api.Head{AA: true, TC: true}); f != 0x0600 || e != api.OK {
		t.Errorf("%x %v", f, e)
	}
	if f, e := head.Flags(api.Head{ID: 9}); f != 0 || e != api.OK {
		t.Errorf("%x %v", f, e)
	}
	for _, h := range []api.Head{{Op: 16}, {Code: 16}, {Op: 128}, {Code: 128, QR: true}} {
		if f, e := head.Flags(h); f != 0 || e != api.ErrArg {
			t.Errorf("%v: %x %v", h, f, e)
		}
	}
	for bit, h := range parts() {
		if f, e := head.Flags(h); f != bit || e != api.OK {
			t.Errorf("%v: %x, not %x", h, f, bit)
		}
		if got := head.From(bit); got != h {
			t.Errorf("%x: %v, not %v", bit, got, h)
		}
	}
}

func TestP3_3AndBack(t *testing.T) {
	for n := range 1 << 16 {
		h := head.From(uint16(n))
		if f, e := head.Flags(h); f != uint16(n) || e != api.OK || h.ID != 0 {
			t.Fatalf("%x: %x %v", n, f, e)
		}
	}
	r := rand.New(rand.NewSource(3))
	for range 500 {
		b := make([]byte, 12+r.Intn(3))
		r.Read(b)
		h, c, e := head.Read(string(b))
		s, e2 := head.Write(h, c)
		if e != api.OK || e2 != api.OK || s != string(b[:12]) {
			t.Errorf("%x: %x", b, s)
		}
		h2, c2, e := head.Read(s)
		if h2 != h || c2 != c || e != api.OK {
			t.Errorf("%x: %v %v", b, h2, c2)
		}
	}
}

// changed counts the parts in which two headers differ.
func changed(a, b api.Head) int {
	n := 0
	for _, is := range []bool{a.ID != b.ID, a.QR != b.QR, a.Op != b.Op, a.AA != b.AA, a.TC != b.TC, a.RD != b.RD, a.RA != b.RA, a.Z != b.Z, a.AD != b.AD, a.CD != b.CD, a.Code != b.Code} {
		if is {
			n++
		}
	}
	return n
}

func TestP3_4EachBit(t *testing.T) {
	r := rand.New(rand.NewSource(4))
	for range 200 {
		f := uint16(r.Uint32())
		for bit := range 16 {
			if n := changed(head.From(f), head.From(f^1<<bit)); n != 1 {
				t.Errorf("%x, bit %d: %d parts", f, bit, n)
			}
		}
	}
}

func TestP3_5Truncation(t *testing.T) {
	s := "\x12\x34\x81\x80\x00\x01\x00\x02\x00\x00\x00\x01"
	for n := range 12 {
		if h, c, e := head.Read(s[:n]); h != (api.Head{}) || c != (head.Counts{}) || e != api.ErrShort {
			t.Error(n, h, c, e)
		}
	}
	h, c, _ := head.Read(s)
	for _, more := range []string{"\x00", "\xFF\xFF", s} {
		if h2, c2, e := head.Read(s + more); h2 != h || c2 != c || e != api.OK {
			t.Error(h2, c2, e)
		}
	}
}
