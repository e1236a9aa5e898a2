package sum

import (
	"math/rand"
	"testing"

	"counterfoil/api"
)

func pair(a, b uint32) api.Pair { return api.Pair{A: a, B: b} }

// random: a text of n bytes, and a pair.
func random(r *rand.Rand, n int) (string, api.Pair) {
	b := make([]byte, n)
	for i := range b {
		b[i] = byte(r.Intn(256))
	}
	return string(b), pair(r.Uint32(), r.Uint32())
}

// slow: p gone on by the blocks of s, by the words of the chapter alone.
func slow(p api.Pair, s string) api.Pair {
	for len(s)%8 != 0 {
		s += "\x00"
	}
	for ; s != ""; s = s[8:] {
		word := func(i int) uint32 {
			return uint32(s[i])<<24 + uint32(s[i+1])<<16 + uint32(s[i+2])<<8 + uint32(s[i+3])
		}
		p.A = p.A + word(0) + p.B
		p.B = p.B + word(4) + p.A
	}
	return p
}

func TestAdd(t *testing.T) { // P2.1
	for _, c := range []struct {
		p api.Pair
		s string
		q api.Pair
	}{
		{pair(0, 0), "", pair(0, 0)},
		{pair(5, 6), "", pair(5, 6)},
		{pair(0, 0), "\x00\x00\x00\x01\x00\x00\x00\x02", pair(1, 3)},
		{pair(0, 0), "\x00\x00\x00\x01", pair(1, 1)},
		{pair(1, 3), "\x00\x00\x00\x01", pair(5, 8)},
		{pair(0, 0), "\x01", pair(1<<24, 1<<24)},
		{pair(1<<32-1, 1), "\x00\x00\x00\x00\x00\x00\x00\x00", pair(0, 1)},
		{pair(0, 0), "\x00\x00\x00\x00\x00\x00\x00\x00\x00", pair(0, 0)},
		{pair(0, 1), "\x00\x00\x00\x00\x00\x00\x00\x00", pair(1, 2)},
	} {
		if q := Add(c.p, c.s); q != c.q {
			t.Errorf("Add(%v, %x) = %v", c.p, c.s, q)
		}
		if c.p == pair(0, 0) && Of(c.s) != c.q {
			t.Errorf("Of(%x) = %v", c.s, Of(c.s))
		}
	}
	r := rand.New(rand.NewSource(1))
	for n := range 200 {
		s, p := random(r, n)
		if Add(p, s) != slow(p, s) || Of(s) != slow(pair(0, 0), s) {
			t.Fatal(n)
		}
	}
}

func TestBack(t *testing.T) { // P2.2
	if q := Back(pair(1, 3), "\x00\x00\x00\x01\x00\x00\x00\x02"); q != pair(0, 0) {
		t.Error(q)
	}
	if q := Back(pair(7, 8), ""); q != pair(7, 8) {
		t.Error(q)
	}
	r := rand.New(rand.NewSource(2))
	for n := range 100 {
		s, p := random(r, n)
		if Back(Add(p, s), s) != p || Add(Back(p, s), s) != p {
			t.Fatal(n)
		}
	}
}

func TestText(t *testing.T) { // P2.3
	if Text(pair(1, 258)) != "\x00\x00\x00\x01\x00\x00\x01\x02" {
		t.Errorf("%x", Text(pair(1, 258)))
	}
	if p, e := Take("1234567"); p != pair(0, 0) || e != api.ErrShort {
		t.Error(p, e)
	}
	if p, e := Take(Text(pair(1<<31, 9)) + "more"); p != pair(1<<31, 9) || e != api.OK {
		t.Error(p, e)
	}
}

func TestOneBlock(t *testing.T) { // P2.4
	r := rand.New(rand.NewSource(3))
	for range 2000 {
		s, p := random(r, 8*(1+r.Intn(6)))
		b := []byte(s)
		at := r.Intn(len(b)/8) * 8
		for range 1 + r.Intn(8) {
			b[at+r.Intn(8)] ^= byte(1 << r.Intn(8))
		}
		if string(b) != s && Add(p, string(b)) == Add(p, s) {
			t.Fatalf("%x %x", s, b)
		}
	}
}

func TestGoesOn(t *testing.T) { // P2.5
	r := rand.New(rand.NewSource(4))
	for range 500 {
		s, p := random(r, 8*r.Intn(5))
		u, _ := random(r, r.Intn(40))
		if Add(Add(p, s), u) != Add(p, s+u) {
			t.Fatal(len(s), len(u))
		}
		for full := u; len(full)%8 != 0; {
			full += "\x00"
			if Add(p, full) != Add(p, u) {
				t.Fatal(len(full))
			}
		}
	}
}
