package sip_test

import (
	"encoding/binary"
	"math/bits"
	"math/rand"
	"testing"

	"hustings/api"
	"hustings/sip"
)

const k0, k1 = 0x0706050403020100, 0x0F0E0D0C0B0A0908

func row(n int) string {
	b := make([]byte, n)
	for i := range b {
		b[i] = byte(i)
	}
	return string(b)
}

func TestP13_1Examples(t *testing.T) {
	for n, want := range map[int]uint64{0: 0x726FDB47DD0E0E31, 1: 0x74F839C593DC67FD, 2: 0x0D6C8009D9A94F5A, 8: 0x93F5F5799A932462, 15: 0xA129CA6149BE45E5} {
		if got := sip.Sum(k0, k1, row(n)); got != want {
			t.Errorf("%d: %X, not %X", n, got, want)
		}
	}
}

// plain is the hash written down once more, block by block.
func plain(k0, k1 uint64, s string) uint64 {
	v0, v1, v2, v3 := k0^0x736F6D6570736575, k1^0x646F72616E646F6D, k0^0x6C7967656E657261, k1^0x7465646279746573
	round := func() {
		v0 += v1
		v1 = bits.RotateLeft64(v1, 13) ^ v0
		v0 = bits.RotateLeft64(v0, 32)
		v2 += v3
		v3 = bits.RotateLeft64(v3, 16) ^ v2
		v0 += v3
		v3 = bits.RotateLeft64(v3, 21) ^ v0
		v2 += v1
		v1 = bits.RotateLeft64(v1, 17) ^ v2
		v2 = bits.RotateLeft64(v2, 32)
	}
	b := append([]byte(s), make([]byte, 8-len(s)%8)...)
	b[len(b)-1] = byte(len(s))
	for ; len(b) > 0; b = b[8:] {
		m := binary.LittleEndian.Uint64(b)
		v3 ^= m
		round()
		round()
		v0 ^= m
	}
	v2 ^= 0xFF
	for range 4 {
		round()
	}
	return v0 ^ v1 ^ v2 ^ v3
}

func TestP13_1Random(t *testing.T) {
	r := rand.New(rand.NewSource(13))
	for n := range 600 {
		b := make([]byte, n)
		r.Read(b)
		a, c := r.Uint64(), r.Uint64()
		if got, want := sip.Sum(a, c, string(b)), plain(a, c, string(b)); got != want {
			t.Errorf("%d bytes: %X, not %X", n, got, want)
		}
	}
}

func TestP13_2Hash(t *testing.T) {
	h := sip.New(k0, k1)
	if h.Sum() != 0x726FDB47DD0E0E31 || h.Len() != 0 {
		t.Errorf("%X %d", h.Sum(), h.Len())
	}
	if h.Write("\x00\x01") != api.OK || h.Sum() != 0x0D6C8009D9A94F5A || h.Len() != 2 {
		t.Errorf("%X %d", h.Sum(), h.Len())
	}
	if h.Write("") != api.OK || h.Len() != 2 || h.Sum() != 0x0D6C8009D9A94F5A {
		t.Error("no bytes")
	}
	var zero sip.Hash
	if zero.Sum() != sip.Sum(0, 0, "") || zero.Write("abc") != api.OK || zero.Sum() != plain(0, 0, "abc") || zero.Len() != 3 {
		t.Error("a zero hash has the key 0, 0")
	}
}

func TestP13_2Nil(t *testing.T) {
	var h *sip.Hash
	if h.Write("a") != api.ErrNil || h.Write("") != api.ErrNil || h.Sum() != 0 || h.Len() != 0 || h.Copy() != nil {
		t.Error("nil")
	}
}

func TestP13_3Parts(t *testing.T) {
	r := rand.New(rand.NewSource(133))
	for range 300 {
		s := row(r.Intn(70))
		a, c := r.Uint64(), r.Uint64()
		h := sip.New(a, c)
		for at := 0; at < len(s); {
			end := min(len(s), at+r.Intn(20))
			h.Write(s[at:end])
			at = end
			// P13.4: Sum changes nothing.
			if h.Sum() != plain(a, c, s[:at]) || h.Sum() != plain(a, c, s[:at]) || h.Len() != at {
				t.Fatalf("%d bytes", at)
			}
		}
		if h.Sum() != sip.Sum(a, c, s) {
			t.Errorf("%d bytes", len(s))
		}
	}
}

func TestP13_4Continuation(t *testing.T) {
	for n := range 20 {
		h := sip.New(1, 2)
		h.Write(row(n))
		c := h.Copy()
		if c.Sum() != h.Sum() || c.Len() != n {
			t.Error(n)
		}
		c.Write("more bytes than a block")
		if h.Sum() != plain(1, 2, row(n)) || h.Len() != n {
			t.Error("the hash has changed", n)
		}
		h.Write("x")
		if c.Sum() != plain(1, 2, row(n)+"more bytes than a block") {
			t.Error("the copy has changed", n)
		}
	}
}
