package number

import (
	"math/rand"
	"strings"
	"testing"

	"counterfoil/api"
)

// bytes: a text of these bytes.
func bytes(b ...byte) string { return string(b) }

// some: numbers of all sizes, and those beside the powers of two.
func some() []uint64 {
	r := rand.New(rand.NewSource(1))
	l := []uint64{0}
	for k := range 64 {
		l = append(l, 1<<k, 1<<k-1, 1<<k+1, ^uint64(0)-1<<k)
		for range 20 {
			l = append(l, r.Uint64()>>k)
		}
	}
	return append(l, ^uint64(0))
}

func TestPutForms(t *testing.T) { // P1.1
	for _, c := range []struct {
		n uint64
		s string
	}{
		{0, bytes(0)},
		{127, bytes(127)},
		{128, bytes(129, 0)},
		{16383, bytes(255, 127)},
		{16384, bytes(129, 128, 0)},
		{1<<56 - 1, strings.Repeat("\xff", 7) + "\x7f"},
		{1 << 56, bytes(0x80, 0xc0, 0x80, 0x80, 0x80, 0x80, 0x80, 0x80, 0)},
		{^uint64(0), strings.Repeat("\xff", 9)},
	} {
		if s := Put(c.n); s != c.s {
			t.Errorf("Put(%d) = %x, not %x", c.n, s, c.s)
		}
		if Size(c.n) != len(c.s) {
			t.Errorf("Size(%d) = %d", c.n, Size(c.n))
		}
	}
	if Size(1<<56-1) != 8 || Size(1<<56) != 9 {
		t.Error("the edge of eight bytes")
	}
}

func TestTakeErrors(t *testing.T) { // P1.2
	for _, c := range []struct {
		s string
		n uint64
		k int
		e api.Errno
	}{
		{bytes(129, 0, 7), 128, 2, api.OK},
		{"", 0, 0, api.ErrShort},
		{bytes(129), 0, 0, api.ErrShort},
		{bytes(128), 0, 0, api.ErrShort}, // short ahead of a wrong form
		{strings.Repeat("\xff", 8), 0, 0, api.ErrShort},
		{bytes(128, 0), 0, 0, api.ErrForm},
		{bytes(128, 129, 5), 0, 0, api.ErrForm},
		{strings.Repeat("\x80", 8) + "\x05", 0, 0, api.ErrForm},
		{"\x80\xbf" + strings.Repeat("\xff", 7), 0, 0, api.ErrForm},
		{"\x80\xc0" + strings.Repeat("\x80", 6) + "\xff..", 1<<56 + 255, 9, api.OK},
		{strings.Repeat("\xff", 20), ^uint64(0), 9, api.OK},
		{strings.Repeat("\xff", 8) + "\x00", ^uint64(255), 9, api.OK},
	} {
		n, k, e := Take(c.s)
		if n != c.n || k != c.k || e != c.e {
			t.Errorf("Take(%x) = %d %d %d", c.s, n, k, e)
		}
	}
}

func TestFoldForms(t *testing.T) { // P1.3
	if Fold(0) != 0 || Fold(-1) != 1 || Fold(1) != 2 || Fold(-1<<63) != ^uint64(0) || Fold(1<<63-1) != ^uint64(0)-1 || Unfold(2) != 1 || Unfold(3) != -2 {
		t.Error("folded")
	}
}

func TestFixed(t *testing.T) { // P1.4
	if Four(258) != bytes(0, 0, 1, 2) || Four(1<<32-1) != "\xff\xff\xff\xff" || Eight(1<<56+5) != bytes(1, 0, 0, 0, 0, 0, 0, 5) {
		t.Error("bytes")
	}
	if n, e := TakeFour(bytes(1, 2, 3, 4, 9)); n != 0x01020304 || e != api.OK {
		t.Error(n, e)
	}
	if n, e := TakeFour(bytes(0, 0, 1)); n != 0 || e != api.ErrShort {
		t.Error(n, e)
	}
	if n, e := TakeEight(bytes(0, 0, 0, 0, 0, 0, 1, 2, 9)); n != 258 || e != api.OK {
		t.Error(n, e)
	}
	if n, e := TakeEight(bytes(1, 2, 3, 4, 5, 6, 7)); n != 0 || e != api.ErrShort {
		t.Error(n, e)
	}
}

func TestThereAndBack(t *testing.T) { // P1.5
	for _, n := range some() {
		s := Put(n)
		if Size(n) != len(s) {
			t.Fatal(n, len(s), Size(n))
		}
		for _, tail := range []string{"", "\x00", "\xff\xff", "abc"} {
			if m, k, e := Take(s + tail); m != n || k != len(s) || e != api.OK {
				t.Fatal(n, m, k, e)
			}
		}
		for i := range len(s) {
			if m, k, e := Take(s[:i]); m != 0 || k != 0 || e != api.ErrShort {
				t.Fatal(n, i, m, k, e)
			}
		}
		if m, e := TakeEight(Eight(n) + "x"); m != n || e != api.OK {
			t.Fatal(n, m, e)
		}
		if m, e := TakeFour(Four(uint32(n))); m != uint32(n) || e != api.OK {
			t.Fatal(n, m, e)
		}
	}
}

func TestTakeIsPut(t *testing.T) { // P1.5: what Take takes is Put of what it tells
	r := rand.New(rand.NewSource(2))
	for range 200000 {
		b := make([]byte, r.Intn(11))
		for i := range b {
			b[i] = byte(r.Intn(256))
			if r.Intn(2) == 0 {
				b[i] = []byte{0, 127, 128, 129, 255}[r.Intn(5)]
			}
		}
		s := string(b)
		n, k, e := Take(s)
		if e == api.OK && Put(n) != s[:k] {
			t.Fatalf("Take(%x) = %d %d", s, n, k)
		}
		if e != api.OK && (n != 0 || k != 0) {
			t.Fatalf("Take(%x) = %d %d beside %d", s, n, k, e)
		}
	}
}

func TestFoldBounds(t *testing.T) { // P1.6
	for _, n := range some() {
		i := int64(n)
		if Unfold(Fold(i)) != i || Fold(Unfold(n)) != n {
			t.Fatal(n)
		}
	}
	for k := 1; k <= 63; k++ {
		low, high := -int64(1)<<(k-1), int64(1)<<(k-1)-1
		for _, i := range []int64{low, high, 0, -1} {
			if Fold(i) >= 1<<k {
				t.Error(k, i)
			}
		}
		for _, i := range []int64{low - 1, high + 1} {
			if Fold(i) < 1<<k {
				t.Error(k, i)
			}
		}
	}
}

func TestOrder(t *testing.T) { // P1.7
	l := some()
	for i, a := range l {
		b := l[(i*7+3)%len(l)]
		if (Eight(a) < Eight(b)) != (a < b) || (Four(uint32(a)) < Four(uint32(b))) != (uint32(a) < uint32(b)) {
			t.Fatal(a, b)
		}
	}
}
