package key

import (
	"math"
	"math/rand"
	"slices"
	"strings"
	"testing"

	"counterfoil/api"
	"counterfoil/value"
)

func num(n int64) api.Value    { return api.Value{Kind: api.KInt, N: n} }
func words(s string) api.Value { return api.Value{Kind: api.KText, S: s} }
func bytes(s string) api.Value { return api.Value{Kind: api.KBlob, S: s} }

// random: a value that may be, often one of few.
func random(r *rand.Rand) api.Value {
	s := make([]byte, r.Intn(4))
	for i := range s {
		s[i] = []byte{0, 1, 'a', 254, 255}[r.Intn(5)]
	}
	switch r.Intn(4) {
	case 0:
		return api.Value{}
	case 1:
		return num([]int64{0, 1, -1, 256, math.MinInt64, math.MaxInt64, r.Int63() >> r.Intn(63)}[r.Intn(7)])
	case 2:
		return words(string(s))
	}
	return bytes(string(s))
}

func row(r *rand.Rand) []api.Value {
	l := make([]api.Value, r.Intn(4))
	for i := range l {
		l[i] = random(r)
	}
	return l
}

func put(t *testing.T, row ...api.Value) string {
	t.Helper()
	s, e := Put(row...)
	if e != api.OK {
		t.Fatal(row, e)
	}
	return s
}

func TestPut(t *testing.T) { // P8.1
	for _, c := range []struct {
		row []api.Value
		s   string
	}{
		{nil, ""},
		{[]api.Value{{}}, "\x01"},
		{[]api.Value{num(1)}, "\x02\x80\x00\x00\x00\x00\x00\x00\x01"},
		{[]api.Value{num(-1)}, "\x02\x7f\xff\xff\xff\xff\xff\xff\xff"},
		{[]api.Value{words("a"), bytes("\x00")}, "\x03a\x00\x00\x04\x00\xff\x00\x00"},
		{[]api.Value{words(""), {}}, "\x03\x00\x00\x01"},
		{[]api.Value{words("\x00\x00")}, "\x03\x00\xff\x00\xff\x00\x00"},
	} {
		if s, e := Put(c.row...); s != c.s || e != api.OK {
			t.Errorf("%v: %x %d", c.row, s, e)
		}
	}
	long := words(strings.Repeat("a", 1001))
	if s, e := Put(num(1), long, api.Value{Kind: 7}); s != "" || e != api.ErrLong {
		t.Error(e)
	}
	if s, e := Put(api.Value{Kind: 7}, long); s != "" || e != api.ErrArg {
		t.Error(e)
	}
}

func TestTake(t *testing.T) { // P8.2
	if l, e := Take("\x03a\x00\x00\x01"); !slices.Equal(l, []api.Value{words("a"), {}}) || e != api.OK {
		t.Error(l, e)
	}
	if l, e := Take(""); len(l) != 0 || e != api.OK {
		t.Error(l, e)
	}
	if l, e := Take(put(t, words(strings.Repeat("\x00", 1000)))); l[0].S != strings.Repeat("\x00", 1000) || e != api.OK {
		t.Error(e)
	}
	for _, s := range []string{
		"\x03a\x00", "\x05", "\x00", "\x03\x00\x01\x00\x00", "\x03", "\x03a", "\x03\x00\xff", "\x04\x00\xff\x00", "\xff",
		"\x02", "\x02\x80\x00\x00\x00\x00\x00\x00", "\x01\x06", "\x01\x03a",
		"\x03" + strings.Repeat("a", 1001) + "\x00\x00",
	} {
		if l, e := Take(s); l != nil || e != api.ErrBytes {
			t.Errorf("%x: %v %d", s, l, e)
		}
	}
}

func TestFirst(t *testing.T) { // P8.3
	for _, c := range []struct {
		s string
		n int
		e api.Errno
	}{
		{"\x03a\x00\x00\x01", 4, api.OK}, {"\x01\x09", 1, api.OK}, {"\x02" + strings.Repeat("\xff", 9), 9, api.OK}, {"\x04\x00\xff\x00\x00\xff", 5, api.OK},
		{"", 0, api.ErrBytes}, {"\x05", 0, api.ErrBytes}, {"\x03a\x00", 0, api.ErrBytes}, {"\x03a\x00\x01\x00\x00", 0, api.ErrBytes}, {"\x02\x80", 0, api.ErrBytes},
		{"\x04" + strings.Repeat("a", 1001) + "\x00\x00", 0, api.ErrBytes},
	} {
		if n, e := First(c.s); n != c.n || e != c.e {
			t.Errorf("%x: %d %d", c.s, n, e)
		}
	}
}

func TestNext(t *testing.T) { // P8.4
	for _, c := range []struct {
		s, next string
		ok      bool
	}{{"ab", "ac", true}, {"a\xff", "b", true}, {"\xff\xff", "", false}, {"", "", false}, {"\xfe\xff\xff", "\xff", true}, {"\x00", "\x01", true}, {"a\x7f", "a\x80", true}} {
		if s, ok := Next(c.s); s != c.next || ok != c.ok {
			t.Errorf("%x: %x %v", c.s, s, ok)
		}
	}
}

func TestOrder(t *testing.T) { // P8.5
	r := rand.New(rand.NewSource(9))
	for range 50000 {
		a, b := row(r), row(r)
		if strings.Compare(put(t, a...), put(t, b...)) != value.CompareRows(a, b) {
			t.Fatal(a, b)
		}
	}
}

func TestThereAndBack(t *testing.T) { // P8.6
	r := rand.New(rand.NewSource(10))
	for range 20000 {
		a, b := row(r), row(r)
		s := put(t, a...)
		if l, e := Take(s); !slices.Equal(l, a) || e != api.OK {
			t.Fatal(a, l, e)
		}
		if put(t, slices.Concat(a, b)...) != s+put(t, b...) {
			t.Fatal(a, b)
		}
		if len(a) > 0 {
			if n, e := First(s + "\x00?"); n != len(put(t, a[0])) || e != api.OK {
				t.Fatal(a, n, e)
			}
		}
		c := make([]byte, r.Intn(12))
		for i := range c {
			c[i] = []byte{0, 1, 2, 3, 4, 5, 255}[r.Intn(7)]
		}
		if l, e := Take(string(c)); e == api.OK && put(t, l...) != string(c) {
			t.Fatalf("%x %v", c, l)
		}
	}
}

func TestBegins(t *testing.T) { // P8.7
	r := rand.New(rand.NewSource(11))
	some := func() string {
		b := make([]byte, r.Intn(4))
		for i := range b {
			b[i] = []byte{0, 1, 254, 255}[r.Intn(4)]
		}
		return string(b)
	}
	for range 50000 {
		s, x := some(), some()
		next, ok := Next(s)
		if strings.HasPrefix(x, s) != (x >= s && (!ok || x < next)) {
			t.Fatalf("%x %x", s, x)
		}
	}
}
