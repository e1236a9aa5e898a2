package record

import (
	"math"
	"math/rand"
	"slices"
	"strings"
	"testing"

	"counterfoil/api"
)

func num(n int64) api.Value   { return api.Value{Kind: api.KInt, N: n} }
func txt(s string) api.Value  { return api.Value{Kind: api.KText, S: s} }
func blob(s string) api.Value { return api.Value{Kind: api.KBlob, S: s} }

func row(r *rand.Rand) []api.Value {
	l := make([]api.Value, r.Intn(6))
	for i := range l {
		s := strings.Repeat("ab\x00", r.Intn(30))
		switch r.Intn(4) {
		case 1:
			l[i] = num([]int64{0, 1, -1, math.MinInt64, math.MaxInt64, r.Int63() >> r.Intn(63)}[r.Intn(6)])
		case 2:
			l[i] = txt(s)
		case 3:
			l[i] = blob(s)
		}
	}
	return l
}

func TestPut(t *testing.T) { // P9.1
	for _, c := range []struct {
		row []api.Value
		s   string
	}{
		{nil, "\x00"},
		{[]api.Value{{}, num(1), txt("ab")}, "\x03\x00\x01\x06\x02ab"},
		{[]api.Value{blob(""), num(-1)}, "\x02\x03\x01\x01"},
		{[]api.Value{txt("ab"), blob("cd")}, "\x02\x06\x07abcd"},
		{[]api.Value{txt(strings.Repeat("a", 63))}, "\x01\x81\x00" + strings.Repeat("a", 63)},
	} {
		if s, e := Put(c.row); s != c.s || e != api.OK {
			t.Errorf("%v: %x %d", c.row, s, e)
		}
	}
	k := txt(strings.Repeat("k", 1000))
	long := txt(strings.Repeat("k", 1001))
	for _, c := range []struct {
		row []api.Value
		e   api.Errno
	}{
		{make([]api.Value, 17), api.ErrMany},
		{slices.Repeat([]api.Value{long}, 17), api.ErrMany},
		{make([]api.Value, 16), api.OK},
		{[]api.Value{k, k, k, k, long}, api.ErrLong},
		{[]api.Value{k, k, k, k, {N: 1}, long}, api.ErrArg},
		{[]api.Value{k, k, k, k}, api.ErrLong},
		{[]api.Value{k, k, k, txt(strings.Repeat("k", 991))}, api.OK},      // 4000 bytes
		{[]api.Value{k, k, k, txt(strings.Repeat("k", 992))}, api.ErrLong}, // 4001
	} {
		if s, e := Put(c.row); e != c.e || (s == "") != (e != api.OK) {
			t.Error(len(c.row), e, len(s))
		}
	}
}

func TestTake(t *testing.T) { // P9.2
	if l, e := Take("\x01\x00"); !slices.Equal(l, []api.Value{{}}) || e != api.OK {
		t.Error(l, e)
	}
	if l, e := Take("\x00"); len(l) != 0 || e != api.OK {
		t.Error(l, e)
	}
	k := strings.Repeat("k", 1000)
	for s, n := range map[string]int{
		"\x10" + strings.Repeat("\x00", 16):                          16,
		"\x04\x8f\x52\x8f\x52\x8f\x52\x8f\x40" + k + k + k + k[:991]: 4, // 4000 bytes
	} {
		if l, e := Take(s); len(l) != n || e != api.OK {
			t.Error(len(s), len(l), e)
		}
	}
	for _, s := range []string{
		"", "\x01\x00\x09", "\x01", "\x01\x04", "\x01\x06a", "\x01\x04ab", "\x00\x00",
		"\x11" + strings.Repeat("\x00", 17), "\xff",
		"\x01\x80\x00", "\x01\x01\x80\x05", "\x01\x81", "\x01\x01", "\x02\x01\x01\x02",
		"\x01\x8f\xd4" + strings.Repeat("k", 1001),             // a text of 1001 bytes
		"\x04\x8f\x52\x8f\x52\x8f\x52\x8f\x52" + k + k + k + k, // 4009 bytes
		"\x01\xff\xff\xff\xff\xff\xff\xff\xff\xff", "\x01\x80\xff\xff\xff\xff\xff\xff\xff\xff",
	} {
		if l, e := Take(s); l != nil || e != api.ErrBytes {
			t.Errorf("%.20x: %v %d", s, len(l), e)
		}
	}
}

func TestSize(t *testing.T) { // P9.3
	k := txt(strings.Repeat("k", 1000))
	for _, c := range []struct {
		row []api.Value
		n   int
	}{{nil, 1}, {[]api.Value{{}, num(1), txt("ab")}, 7}, {make([]api.Value, 17), 0}, {[]api.Value{{Kind: 9}}, 0}, {[]api.Value{{Kind: api.KText, S: k.S + "k"}}, 0}, {[]api.Value{k, k, k, k}, 4009}, {slices.Repeat([]api.Value{k}, 16), 16033}} {
		if n := Size(c.row); n != c.n {
			t.Error(len(c.row), n)
		}
	}
	r := rand.New(rand.NewSource(12))
	for range 2000 {
		l := row(r)
		if s, e := Put(l); e != api.OK || Size(l) != len(s) {
			t.Fatal(l, e)
		}
	}
}

func TestThereAndBack(t *testing.T) { // P9.4
	r := rand.New(rand.NewSource(13))
	before := ""
	for range 5000 {
		l := row(r)
		s, _ := Put(l)
		if m, e := Take(s); !slices.Equal(m, l) || e != api.OK {
			t.Fatal(l, m, e)
		}
		if s != before && strings.HasPrefix(s, before) && before != "" {
			t.Fatalf("%x is the beginning of %x", before, s)
		}
		before = s
		c := []byte(s[:r.Intn(len(s)+1)])
		for i := range c {
			if r.Intn(4) == 0 {
				c[i] = byte(r.Intn(8))
			}
		}
		if m, e := Take(string(c)); e == api.OK {
			if u, _ := Put(m); u != string(c) {
				t.Fatalf("%x %v", c, m)
			}
		}
	}
}
