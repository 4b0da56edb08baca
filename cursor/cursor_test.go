package cursor_test

import (
	"math"
	"math/rand"
	"testing"

	"hustings/api"
	"hustings/cursor"
)

const five = "\x01\x02\x03\x04\x05"

func TestP2_1Example(t *testing.T) {
	c := cursor.New(five)
	if c.At() != 0 || c.Left() != 5 {
		t.Error(c.At(), c.Left())
	}
	if n, e := c.Byte(); n != 1 || e != api.OK {
		t.Error(n, e)
	}
	if n, e := c.Two(); n != 515 || e != api.OK || c.Left() != 2 || c.At() != 3 {
		t.Error(n, e)
	}
	if n, e := c.Four(); n != 0 || e != api.ErrShort || c.At() != 3 {
		t.Error(n, e)
	}
	if s, e := c.Take(2); s != "\x04\x05" || e != api.OK {
		t.Error(s, e)
	}
	if n, e := c.Byte(); n != 0 || e != api.ErrShort {
		t.Error(n, e)
	}
	if e := c.Seek(5); e != api.OK {
		t.Error(e)
	}
	if e := c.Seek(6); e != api.ErrArg {
		t.Error(e)
	}
}

func TestP2_1Numbers(t *testing.T) {
	c := cursor.New("\xFF\xFE\xFD\xFC\xFB")
	if n, e := c.Four(); n != 0xFFFEFDFC || e != api.OK {
		t.Error(n, e)
	}
	if c.Seek(3) != api.OK {
		t.Error("seek")
	}
	if n, e := c.Two(); n != 0xFCFB || e != api.OK || c.Left() != 0 {
		t.Error(n, e)
	}
	if c.Seek(4) != api.OK {
		t.Error("seek")
	}
	if n, e := c.Byte(); n != 0xFB || e != api.OK {
		t.Error(n, e)
	}
}

// TestP2_1Short reads with exactly enough bytes, and with one too few.
func TestP2_1Short(t *testing.T) {
	for at := range 6 {
		left := 5 - at
		for kind, size := range []int{1, 2, 4, 0, 1, 2, 3, 4, 5, 6} {
			c := cursor.New(five)
			c.Seek(at)
			e, zero := read(c, kind, size)
			want := api.OK
			if size > left {
				want = api.ErrShort
			}
			if e != want || e != api.OK && !zero {
				t.Errorf("at %d: kind %d: %v", at, kind, e)
			}
			moved := size
			if want != api.OK {
				moved = 0
			}
			if c.At() != at+moved || c.Left() != left-moved {
				t.Errorf("at %d: kind %d: moved to %d", at, kind, c.At())
			}
		}
	}
}

func read(c *cursor.Cursor, kind, size int) (api.Errno, bool) {
	switch kind {
	case 0:
		n, e := c.Byte()
		return e, n == 0
	case 1:
		n, e := c.Two()
		return e, n == 0
	case 2:
		n, e := c.Four()
		return e, n == 0
	}
	s, e := c.Take(size)
	return e, s == ""
}

func TestP2_1Errors(t *testing.T) {
	c := cursor.New(five)
	c.Seek(2)
	for _, n := range []int{-1, math.MinInt} {
		if s, e := c.Take(n); s != "" || e != api.ErrArg || c.At() != 2 {
			t.Error(s, e)
		}
		if e := c.Seek(n); e != api.ErrArg || c.At() != 2 {
			t.Error(e)
		}
	}
	if s, e := c.Take(math.MaxInt); s != "" || e != api.ErrShort || c.At() != 2 {
		t.Error(s, e)
	}
	if e := c.Seek(math.MaxInt); e != api.ErrArg || c.At() != 2 {
		t.Error(e)
	}
	if s, e := c.Take(0); s != "" || e != api.OK {
		t.Error(s, e)
	}
	if c.Seek(0) != api.OK || c.At() != 0 {
		t.Error("seek to the beginning")
	}
}

func TestP2_1Nil(t *testing.T) {
	var c *cursor.Cursor
	if n, e := c.Byte(); n != 0 || e != api.ErrNil {
		t.Error(n, e)
	}
	if n, e := c.Two(); n != 0 || e != api.ErrNil {
		t.Error(n, e)
	}
	if n, e := c.Four(); n != 0 || e != api.ErrNil {
		t.Error(n, e)
	}
	for _, n := range []int{-1, 0, 1} {
		if s, e := c.Take(n); s != "" || e != api.ErrNil {
			t.Error(s, e)
		}
		if e := c.Seek(n); e != api.ErrNil {
			t.Error(e)
		}
	}
	if c.At() != 0 || c.Left() != 0 {
		t.Error("nil has an offset")
	}
	var zero cursor.Cursor
	if s, e := zero.Take(0); s != "" || e != api.OK || zero.Left() != 0 {
		t.Error(s, e)
	}
	if _, e := zero.Byte(); e != api.ErrShort {
		t.Error(e)
	}
}

func TestP2_2Put(t *testing.T) {
	b := cursor.Put2(nil, 258)
	if string(b) != "\x01\x02" {
		t.Errorf("%q", b)
	}
	if s := string(cursor.Put4(b, 1)); s != "\x01\x02\x00\x00\x00\x01" {
		t.Errorf("%q", s)
	}
	if s := string(cursor.Put1(b, 0xFE)); s != "\x01\x02\xFE" {
		t.Errorf("%q", s)
	}
	if s := string(cursor.Put4([]byte("x"), 0xFEDCBA98)); s != "x\xFE\xDC\xBA\x98" {
		t.Errorf("%q", s)
	}
	if s := string(cursor.Put2([]byte{}, 0xFE01)); s != "\xFE\x01" {
		t.Errorf("%q", s)
	}
	if s := string(cursor.Put1(nil, 0)); s != "\x00" {
		t.Errorf("%q", s)
	}
}

func TestP2_3AndBack(t *testing.T) {
	r := rand.New(rand.NewSource(2))
	for range 300 {
		var b []byte
		var kinds []int
		var want []uint32
		for range r.Intn(12) {
			n, k := r.Uint32(), r.Intn(3)
			switch k {
			case 0:
				b, n = cursor.Put1(b, uint8(n)), n&0xFF
			case 1:
				b, n = cursor.Put2(b, uint16(n)), n&0xFFFF
			case 2:
				b = cursor.Put4(b, n)
			}
			kinds, want = append(kinds, k), append(want, n)
		}
		c := cursor.New(string(b))
		for i, k := range kinds {
			if got := number(t, c, k); got != want[i] {
				t.Errorf("%d: %x, not %x", k, got, want[i])
			}
			if c.At()+c.Left() != len(b) {
				t.Error("At and Left")
			}
		}
		if c.Left() != 0 {
			t.Error("something is left")
		}
	}
}

func number(t *testing.T, c *cursor.Cursor, kind int) uint32 {
	t.Helper()
	n, e := uint32(0), api.OK
	switch kind {
	case 0:
		var x uint8
		x, e = c.Byte()
		n = uint32(x)
	case 1:
		var x uint16
		x, e = c.Two()
		n = uint32(x)
	case 2:
		n, e = c.Four()
	}
	if e != api.OK {
		t.Error(e)
	}
	return n
}

func TestP2_4InParts(t *testing.T) {
	r := rand.New(rand.NewSource(3))
	for range 100 {
		b := make([]byte, 8)
		r.Read(b)
		c, d := cursor.New(string(b)), cursor.New(string(b))
		for range 2 {
			one, _ := c.Byte()
			two, _ := c.Byte()
			both, _ := d.Two()
			if both != uint16(one)<<8|uint16(two) {
				t.Error(one, two, both)
			}
		}
		d.Seek(0)
		c.Seek(0)
		high, _ := c.Two()
		low, _ := c.Two()
		if both, _ := d.Four(); both != uint32(high)<<16|uint32(low) {
			t.Error(high, low, both)
		}
		for i := range 5 {
			c.Seek(4)
			x, _ := c.Take(i)
			y, _ := c.Take(4 - i)
			if x+y != string(b[4:]) {
				t.Errorf("%q %q", x, y)
			}
		}
	}
}

func TestP2_5Offsets(t *testing.T) {
	text := "\x00\x01\x02\x03\x04\x05\x06\x07\x08\x09"
	c := cursor.New(text)
	for at := range 11 {
		c.Seek(at)
		if c.At() != at || c.Left() != 10-at {
			t.Error(at, c.At(), c.Left())
		}
		first, e1 := c.Take(3)
		c.Seek(10)
		c.Seek(at)
		again, e2 := c.Take(3)
		if first != again || e1 != e2 || e1 == api.OK && first != text[at:at+3] {
			t.Errorf("%q %q", first, again)
		}
	}
}

// TestP2_6NewMemory hands in bytes with room behind them.
func TestP2_6NewMemory(t *testing.T) {
	b := make([]byte, 2, 20)
	one, two, four := cursor.Put1(b, 1), cursor.Put2(b, 0x0202), cursor.Put4(b, 0x04040404)
	for i, c := range b[:20] {
		if c != 0 {
			t.Errorf("written at %d", i)
		}
	}
	for _, l := range [][]byte{one, two, four} {
		for i := range l {
			l[i] = 9
		}
		if b[0] != 0 || b[1] != 0 {
			t.Error("shared with b")
		}
	}
	x := cursor.Put1(b, 1)
	y := cursor.Put1(b, 2)
	if x[2] != 1 || y[2] != 2 {
		t.Error("two results share memory")
	}
	if y[0] = 7; x[0] != 0 {
		t.Error("two results share memory")
	}
	// What is appended to a result must not show in another one.
	if _ = append(x, 5); len(b) != 2 || b[:3][2] != 0 {
		t.Error("shared behind b")
	}
}
