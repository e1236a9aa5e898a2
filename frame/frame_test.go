package frame

import (
	"math/rand"
	"strings"
	"testing"

	"counterfoil/api"
	"counterfoil/number"
	"counterfoil/sum"
)

// page: a page of one letter.
func page(c string) string { return strings.Repeat(c, api.PageSize) }

func TestPutHead(t *testing.T) { // P4.1
	for _, h := range []api.LogHead{{Frames: 257}, {Frames: -1}, {Pages: 257}, {Pages: -1}, {Frames: 1 << 40}} {
		if s, e := PutHead(h); s != "" || e != api.ErrArg {
			t.Error(h, s, e)
		}
	}
	h := api.LogHead{Number: 1<<40 + 7, Frames: 256, Pages: 255}
	s, e := PutHead(h)
	first := "counterf" + number.Eight(1<<40+7) + number.Four(256) + number.Four(255)
	if s != first+sum.Text(sum.Of(first))+strings.Repeat("\x00", 32) || len(s) != 64 || e != api.OK {
		t.Errorf("%x %d", s, e)
	}
	if Start(9) != sum.Of("counterf"+number.Eight(9)) || Start(9) == Start(10) {
		t.Error(Start(9))
	}
}

// turned: s with another byte there.
func turned(s string, at int, by byte) string {
	b := []byte(s)
	b[at] ^= by
	return string(b)
}

// headed: a head's bytes with a right sum, whatever its numbers are.
func headed(frames, pages uint32) string {
	s := "counterf" + number.Eight(1) + number.Four(frames) + number.Four(pages)
	return s + sum.Text(sum.Of(s)) + strings.Repeat("\x00", 32)
}

func TestTakeHead(t *testing.T) { // P4.2
	s, _ := PutHead(api.LogHead{Number: 1, Frames: 2, Pages: 3})
	for _, c := range []struct {
		s string
		e api.Errno
	}{
		{"", api.ErrShort},
		{s[:63], api.ErrShort},
		{strings.Repeat("\x00", 64), api.ErrForm},
		{turned(s, 0, 1), api.ErrForm},
		{turned(s, 7, 128), api.ErrForm},
		{turned(s, 32, 1), api.ErrForm},
		{turned(s, 63, 1), api.ErrForm},
		{headed(257, 0), api.ErrForm},
		{headed(0, 257), api.ErrForm},
		{headed(1<<32-1, 0), api.ErrForm},
		{turned(headed(257, 0), 24, 1), api.ErrForm}, // the form ahead of the sum
		{turned(s, 15, 1), api.ErrSum},
		{turned(s, 19, 1), api.ErrSum},
		{turned(s, 24, 1), api.ErrSum},
		{turned(s, 31, 1), api.ErrSum},
	} {
		if h, e := TakeHead(c.s); h != (api.LogHead{}) || e != c.e {
			t.Errorf("%x: %v %d", c.s, h, e)
		}
	}
	if h, e := TakeHead(headed(256, 256) + "more"); h != (api.LogHead{Number: 1, Frames: 256, Pages: 256}) || e != api.OK {
		t.Error(h, e)
	}
}

func TestPut(t *testing.T) { // P4.3
	p := api.Pair{A: 3, B: 4}
	for _, f := range []api.Frame{
		{Page: 0, Data: page("a")}, {Page: 257, Data: page("a")}, {Page: -1, Data: page("a")},
		{Page: 1, Commit: -1, Data: page("a")}, {Page: 1, Commit: 257, Data: page("a")},
		{Page: 1, Data: page("a")[1:]}, {Page: 1, Data: page("a") + "a"}, {Page: 1},
	} {
		if s, q, e := Put(p, 5, f); s != "" || q != (api.Pair{}) || e != api.ErrArg {
			t.Error(f, s, q, e)
		}
	}
	s, q, e := Put(p, 5, api.Frame{Page: 256, Commit: 7, Data: page("a")})
	first := number.Four(256) + number.Four(7) + number.Eight(5)
	want := sum.Add(sum.Add(p, first), page("a"))
	if s != first+sum.Text(want)+strings.Repeat("\x00", 40)+page("a") || q != want || len(s) != api.FrameSize || e != api.OK {
		t.Errorf("%x %v %d", s, q, e)
	}
}

// framed: a frame's bytes behind 0 0 with a right sum, whatever its numbers are.
func framed(page, commit uint32, data string) string {
	s := number.Four(page) + number.Four(commit) + number.Eight(5)
	return s + sum.Text(sum.Add(sum.Of(s), data)) + strings.Repeat("\x00", 40) + data
}

func TestTake(t *testing.T) { // P4.4
	var p api.Pair
	s := framed(1, 2, page("x"))
	for _, c := range []struct {
		s    string
		salt uint64
		e    api.Errno
	}{
		{s[:575], 5, api.ErrShort},
		{"", 5, api.ErrShort},
		{strings.Repeat("\x00", 576), 0, api.ErrForm},
		{turned(s, 24, 1), 6, api.ErrForm}, // the form ahead of the salt
		{turned(s, 63, 1), 5, api.ErrForm},
		{framed(0, 0, page("x")), 5, api.ErrForm},
		{framed(257, 0, page("x")), 5, api.ErrForm},
		{framed(1, 257, page("x")), 5, api.ErrForm},
		{framed(1<<31, 1<<31, page("x")), 5, api.ErrForm},
		{turned(s, 16, 1), 6, api.ErrSalt}, // the salt ahead of the sum
		{s, 5 + 1<<32, api.ErrSalt},
		{turned(s, 16, 1), 5, api.ErrSum},
		{turned(s, 23, 1), 5, api.ErrSum},
		{turned(s, 3, 2), 5, api.ErrSum},
		{turned(s, 575, 1), 5, api.ErrSum},
	} {
		if f, q, e := Take(p, c.salt, c.s); f != (api.Frame{}) || q != (api.Pair{}) || e != c.e {
			t.Errorf("%x: %v %d, not %d", c.s[:min(64, len(c.s))], q, e, c.e)
		}
	}
	if _, _, e := Take(p, 5, s); e != api.OK {
		t.Error(e)
	}
}

func TestThereAndBack(t *testing.T) { // P4.5, P4.6
	r := rand.New(rand.NewSource(6))
	for range 300 {
		b := make([]byte, api.PageSize)
		if r.Intn(3) > 0 {
			for i := range b {
				b[i] = byte(r.Intn(256))
			}
		}
		p, salt := api.Pair{A: r.Uint32(), B: r.Uint32()}, r.Uint64()
		f := api.Frame{Page: 1 + r.Intn(256), Commit: r.Intn(257), Data: string(b)}
		s, q, e := Put(p, salt, f)
		if g, k, d := Take(p, salt, s+"more"); e != api.OK || g != f || k != q || d != api.OK {
			t.Fatal(g.Page, k, d)
		}
		o := api.Pair{A: p.A ^ uint32(r.Intn(2)), B: p.B ^ 1<<r.Intn(32)}
		if _, _, e := Take(o, salt, s); e != api.ErrSum {
			t.Fatal("behind another pair:", e)
		}
		h := api.LogHead{Number: salt, Frames: r.Intn(257), Pages: r.Intn(257)}
		hs, _ := PutHead(h)
		if g, e := TakeHead(hs + "more"); g != h || e != api.OK {
			t.Fatal(g, e)
		}
		for range 30 {
			at := r.Intn(len(s)/8) * 8
			c := s
			for range 1 + r.Intn(8) {
				c = turned(c, at+r.Intn(8), byte(1+r.Intn(255)))
			}
			if _, _, e := Take(p, salt, c); c != s && e == api.OK {
				t.Fatal("a block at", at)
			}
			at = r.Intn(8) * 8
			c = turned(hs, at+r.Intn(8), byte(1+r.Intn(255)))
			c = turned(c, at+r.Intn(8), byte(1+r.Intn(255)))
			if _, e := TakeHead(c); c != hs && e == api.OK {
				t.Fatal("a head's block at", at)
			}
		}
	}
}
