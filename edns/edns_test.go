package edns_test

import (
	"math"
	"math/rand"
	"strings"
	"testing"

	"hustings/api"
	"hustings/edns"
)

func TestP6_1Example(t *testing.T) {
	data := "\x00\x0A\x00\x02ab"
	x, e := edns.Read(1232, 0x8000, data)
	want := api.Edns{Size: 1232, Flags: 0x8000, Options: []api.Option{{Code: 10, Data: "ab"}}}
	if !edns.Same(x, want) || e != api.OK || len(x.Options) != 1 || x.Options[0] != want.Options[0] {
		t.Error(x, e)
	}
	class, ttl, d, e := edns.Write(want)
	if class != 1232 || ttl != 0x8000 || d != data || e != api.OK {
		t.Errorf("%d %x %q %v", class, ttl, d, e)
	}
	x, e = edns.Read(0xFFFE, 0x12345678, "")
	if x.Size != 0xFFFE || x.Ext != 0x12 || x.Version != 0x34 || x.Flags != 0x5678 || len(x.Options) != 0 || e != api.OK {
		t.Error(x, e)
	}
	x, e = edns.Read(0, 0, "\x01\x02\x00\x00\xFF\xFE\x00\x01z")
	if len(x.Options) != 2 || x.Options[0] != (api.Option{Code: 0x0102}) || x.Options[1] != (api.Option{Code: 0xFFFE, Data: "z"}) || e != api.OK {
		t.Error(x, e)
	}
}

func TestP6_1ReadShort(t *testing.T) {
	for _, data := range []string{"\x00\x0A\x00\x03ab", "\x00\x0A\x00", "\x00", "\x00\x0A", "\x00\x0A\x00\x01", "\x00\x0A\x00\x00\x01", "\x00\x0A\x00\x02ab\x00\x00\x00\x01", "\x00\x00\x01\x00" + strings.Repeat("x", 255)} {
		x, e := edns.Read(7, 0xFFFFFFFF, data)
		if e != api.ErrShort || x.Size != 0 || x.Ext != 0 || x.Version != 0 || x.Flags != 0 || len(x.Options) != 0 {
			t.Errorf("%q: %v %v", data, x, e)
		}
	}
}

func TestP6_1WriteLong(t *testing.T) {
	big := func(n int) api.Option { return api.Option{Code: 1, Data: strings.Repeat("x", n)} }
	for _, l := range [][]api.Option{{big(65531)}, {big(30000), big(35527)}, {big(0), big(65527)}} {
		if _, _, d, e := edns.Write(api.Edns{Options: l}); e != api.OK || len(d) != 65535 {
			t.Error(len(d), e)
		}
	}
	for _, l := range [][]api.Option{{big(65532)}, {big(65535)}, {big(65536)}, {big(70000)}, {big(30000), big(35528)}, {big(65531), big(0)}, make([]api.Option, 16384)} {
		class, ttl, d, e := edns.Write(api.Edns{Size: 5, Flags: 5, Options: l})
		if e != api.ErrLong || d != "" || class != 0 || ttl != 0 {
			t.Error(class, ttl, len(d), e)
		}
	}
	if _, _, d, e := edns.Write(api.Edns{Options: make([]api.Option, 16383)}); e != api.OK || len(d) != 65532 {
		t.Error(len(d), e)
	}
}

func TestP6_1Same(t *testing.T) {
	x := func() api.Edns {
		return api.Edns{Size: 1, Ext: 2, Version: 3, Flags: 4, Options: []api.Option{{Code: 5, Data: "a"}, {Code: 6}}}
	}
	if !edns.Same(x(), x()) || !edns.Same(api.Edns{}, api.Edns{Options: []api.Option{}}) {
		t.Error("the same")
	}
	for i, change := range []func(*api.Edns){
		func(y *api.Edns) { y.Size = 9 },
		func(y *api.Edns) { y.Ext = 9 },
		func(y *api.Edns) { y.Version = 9 },
		func(y *api.Edns) { y.Flags = 9 },
		func(y *api.Edns) { y.Options[0].Code = 9 },
		func(y *api.Edns) { y.Options[1].Data = "b" },
		func(y *api.Edns) { y.Options = y.Options[:1] },
		func(y *api.Edns) { y.Options = nil },
		func(y *api.Edns) { y.Options[0], y.Options[1] = y.Options[1], y.Options[0] },
		func(y *api.Edns) { y.Options = append(y.Options, api.Option{}) },
	} {
		y := x()
		change(&y)
		if edns.Same(x(), y) || edns.Same(y, x()) {
			t.Error("not the same", i)
		}
	}
}

func TestP6_2Codes(t *testing.T) {
	for _, c := range [][3]int{{0, 1, 16}, {0, 0, 0}, {15, 0, 15}, {3, 0, 3}, {15, 255, 4095}, {5, 2, 37}} {
		if n := edns.Code(uint8(c[0]), uint8(c[1])); n != c[2] {
			t.Error(c, n)
		}
		if n := edns.Code(uint8(c[0])|0xF0, uint8(c[1])); n != c[2] {
			t.Error("only the lowest four bits count", c, n)
		}
		if code, ext, e := edns.Split(c[2]); int(code) != c[0] || int(ext) != c[1] || e != api.OK {
			t.Error(c, code, ext, e)
		}
	}
	for _, n := range []int{-1, 4096, math.MinInt, math.MaxInt, 1 << 32} {
		if code, ext, e := edns.Split(n); code != 0 || ext != 0 || e != api.ErrArg {
			t.Error(n, code, ext, e)
		}
	}
}

func randomOptions(r *rand.Rand) []api.Option {
	var l []api.Option
	for range r.Intn(5) {
		b := make([]byte, r.Intn(6))
		r.Read(b)
		l = append(l, api.Option{Code: uint16(r.Uint32()), Data: string(b)})
	}
	return l
}

func TestP6_3AndBack(t *testing.T) {
	r := rand.New(rand.NewSource(6))
	for range 500 {
		x := api.Edns{Size: uint16(r.Uint32()), Ext: uint8(r.Uint32()), Version: uint8(r.Uint32()), Flags: uint16(r.Uint32()), Options: randomOptions(r)}
		class, ttl, data, e := edns.Write(x)
		y, e2 := edns.Read(class, ttl, data)
		if e != api.OK || e2 != api.OK || !edns.Same(x, y) {
			t.Errorf("%v: %v", x, y)
		}
	}
	read := 0
	for range 5000 {
		b := make([]byte, r.Intn(14))
		for i := range b {
			b[i] = byte(r.Intn(3))
		}
		ttl := r.Uint32()
		x, e := edns.Read(77, ttl, string(b))
		if e != api.OK {
			continue
		}
		read++
		if class, ttl2, data, e := edns.Write(x); class != 77 || ttl2 != ttl || data != string(b) || e != api.OK {
			t.Errorf("%x: %x %x %v", b, ttl2, data, e)
		}
	}
	if read < 100 {
		t.Error(read)
	}
	long := strings.Repeat("\x00\x01\x00\x01x", 13108) // 65540 bytes are read, though they could not be written
	if x, e := edns.Read(0, 0, long); len(x.Options) != 13108 || e != api.OK {
		t.Error(len(x.Options), e)
	}
}

func TestP6_4Concatenation(t *testing.T) {
	r := rand.New(rand.NewSource(64))
	for range 300 {
		a, b := randomOptions(r), randomOptions(r)
		_, _, da, _ := edns.Write(api.Edns{Options: a})
		_, _, db, _ := edns.Write(api.Edns{Options: b})
		_, _, both, _ := edns.Write(api.Edns{Options: append(append([]api.Option{}, a...), b...)})
		if both != da+db {
			t.Errorf("%q %q %q", da, db, both)
		}
		ends := map[int]bool{0: true}
		at := 0
		for _, o := range a {
			at += 4 + len(o.Data)
			ends[at] = true
		}
		for n := range len(da) {
			_, e := edns.Read(0, 0, da[:n])
			if (e == api.OK) != ends[n] || e != api.OK && e != api.ErrShort {
				t.Errorf("%q at %d: %v", da, n, e)
			}
		}
	}
}

func TestP6_5Codes(t *testing.T) {
	seen := map[[2]uint8]bool{}
	for n := range 4096 {
		code, ext, e := edns.Split(n)
		if e != api.OK || code > 15 || seen[[2]uint8{code, ext}] || edns.Code(code, ext) != n {
			t.Error(n, code, ext, e)
		}
		seen[[2]uint8{code, ext}] = true
	}
}

func TestP6_6Parts(t *testing.T) {
	r := rand.New(rand.NewSource(66))
	for range 300 {
		ttl := r.Uint32()
		x, _ := edns.Read(0, ttl, "")
		for bit := range 32 {
			y, _ := edns.Read(0, ttl^1<<bit, "")
			ext, version, flags := x.Ext != y.Ext, x.Version != y.Version, x.Flags != y.Flags
			if ext != (bit >= 24) || version != (bit >= 16 && bit < 24) || flags != (bit < 16) {
				t.Errorf("%x, bit %d", ttl, bit)
			}
		}
	}
}

func TestP6_1NewMemory(t *testing.T) {
	l := []api.Option{{Code: 1, Data: "a"}, {Code: 2, Data: "b"}, {Code: 3}}
	edns.Write(api.Edns{Options: l[:2]})
	if l[0] != (api.Option{Code: 1, Data: "a"}) || l[1] != (api.Option{Code: 2, Data: "b"}) || l[2] != (api.Option{Code: 3}) {
		t.Error(l)
	}
}
