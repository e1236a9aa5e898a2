package value

import (
	"math"
	"math/rand"
	"strings"
	"testing"

	"counterfoil/api"
)

func number(n int64) api.Value { return api.Value{Kind: api.KInt, N: n} }
func words(s string) api.Value { return api.Value{Kind: api.KText, S: s} }
func bytes(s string) api.Value { return api.Value{Kind: api.KBlob, S: s} }

// random: a value that may be, often one of few.
func random(r *rand.Rand) api.Value {
	s := make([]byte, r.Intn(4))
	for i := range s {
		s[i] = []byte{0, 1, '\'', 'a', 'b', 255}[r.Intn(6)]
	}
	switch r.Intn(4) {
	case 0:
		return api.Value{}
	case 1:
		return number([]int64{0, 1, -1, math.MinInt64, math.MaxInt64, r.Int63() >> r.Intn(63)}[r.Intn(6)])
	case 2:
		return words(string(s))
	}
	return bytes(string(s))
}

func row(r *rand.Rand) []api.Value {
	l := make([]api.Value, r.Intn(4))
	for i := range l {
		l[i] = random(r)
	}
	return l
}

func TestCheck(t *testing.T) { // P7.1
	long := strings.Repeat("a", api.MaxValue)
	for _, c := range []struct {
		v api.Value
		e api.Errno
	}{
		{api.Value{}, api.OK}, {number(0), api.OK}, {number(math.MinInt64), api.OK}, {words(""), api.OK}, {bytes("\x00\xff"), api.OK},
		{words(long), api.OK}, {bytes(long), api.OK}, {words(long + "a"), api.ErrLong}, {bytes(long + "a"), api.ErrLong},
		{api.Value{N: 1}, api.ErrArg}, {api.Value{S: "a"}, api.ErrArg}, {api.Value{Kind: api.KInt, S: "a"}, api.ErrArg},
		{api.Value{Kind: api.KText, N: 1, S: "a"}, api.ErrArg}, {api.Value{Kind: api.KBlob, N: 1}, api.ErrArg},
		{api.Value{Kind: 4}, api.ErrArg}, {api.Value{Kind: 255, S: long + "a"}, api.ErrArg}, {api.Value{Kind: api.KText, N: 1, S: long + "a"}, api.ErrArg},
	} {
		if e := Check(c.v); e != c.e {
			t.Error(c.v, e)
		}
	}
}

func TestCompare(t *testing.T) { // P7.2
	rising := []api.Value{{}, number(math.MinInt64), number(-1), number(0), number(9), number(math.MaxInt64), words(""), words("\x00"), words("B"), words("a"), words("aa"), words("b"), words("\xff"), bytes(""), bytes("a"), {Kind: 4}, {Kind: 9}}
	for i, a := range rising {
		for j, b := range rising {
			want := 0
			if i < j {
				want = -1
			} else if i > j {
				want = 1
			}
			if Compare(a, b) != want || CompareRows([]api.Value{number(1), a}, []api.Value{number(1), b}) != want {
				t.Error(a, b, Compare(a, b))
			}
		}
	}
	if Compare(api.Value{Kind: 9, N: 1, S: "a"}, api.Value{Kind: 9}) != 0 || Compare(api.Value{N: 3}, api.Value{S: "x"}) != 0 {
		t.Error("what a kind does not have counts for nothing")
	}
	one, two := []api.Value{number(1)}, []api.Value{number(1), number(2)}
	if CompareRows(two, one) != 1 || CompareRows(one, two) != -1 || CompareRows(nil, []api.Value{}) != 0 || CompareRows([]api.Value{{}}, []api.Value{{}}) != 0 || CompareRows(nil, one) != -1 {
		t.Error("rows")
	}
}

func TestLiteral(t *testing.T) { // P7.3
	for _, c := range []struct {
		v api.Value
		s string
	}{
		{api.Value{}, "NULL"}, {number(math.MinInt64), "-9223372036854775808"}, {number(0), "0"}, {number(10), "10"},
		{words("it's"), "'it''s'"}, {words(""), "''"}, {words("'"), "''''"}, {words("\x00\xff\n"), "'\x00\xff\n'"},
		{bytes("\x00\xff"), "x'00ff'"}, {bytes(""), "x''"}, {bytes("\x1a"), "x'1a'"},
		{api.Value{Kind: 4}, ""}, {api.Value{N: 1}, ""}, {words(strings.Repeat("a", 1001)), ""},
	} {
		if s := Literal(c.v); s != c.s {
			t.Error(c.v, s)
		}
	}
}

func TestRead(t *testing.T) { // P7.4
	for _, s := range []string{
		"", "-0", "01", "-01", "00", "+1", "1 ", " 1", "-", "1a", "1_0", "0x1", "9223372036854775808", "-9223372036854775809",
		"null", "NULL ", "NUL", "'a", "'", "'a'b", "'''", "a", "'a''", "'a' ",
		"x", "x'", "x'0", "x'0'", "x'0F'", "x'00", "x'00'0", "x'0g'", "x''x", "x00'", "X'00'", "x'00' ", "x'\x00\x00'",
		"x'0" + strings.Repeat("00", 1000) + "'", "'" + strings.Repeat("a", 1001),
	} {
		if v, e := Read(s); v != (api.Value{}) || e != api.ErrText {
			t.Errorf("%q: %v %d", s, v, e)
		}
	}
	for _, s := range []string{"'" + strings.Repeat("a", 1001) + "'", "x'" + strings.Repeat("00", 1001) + "'", "'" + strings.Repeat("''", 1001) + "'"} {
		if v, e := Read(s); v != (api.Value{}) || e != api.ErrLong {
			t.Error(v, e)
		}
	}
	if v, e := Read("'" + strings.Repeat("''", 1000) + "'"); v != words(strings.Repeat("'", 1000)) || e != api.OK {
		t.Error(e)
	}
	if v, e := Read("NULL"); v != (api.Value{}) || e != api.OK {
		t.Error(v, e)
	}
	if v, e := Read("''"); v != words("") || e != api.OK {
		t.Error(v, e)
	}
}

func TestOrder(t *testing.T) { // P7.5
	r := rand.New(rand.NewSource(7))
	for range 20000 {
		a, b, c := row(r), row(r), row(r)
		if CompareRows(a, b) != -CompareRows(b, a) || CompareRows(a, a) != 0 {
			t.Fatal(a, b)
		}
		if CompareRows(a, b) < 0 && CompareRows(b, c) < 0 && CompareRows(a, c) >= 0 {
			t.Fatal(a, b, c)
		}
		x, y := random(r), random(r)
		if (Compare(x, y) == 0) != (x == y) {
			t.Fatal(x, y)
		}
	}
}

func TestThereAndBack(t *testing.T) { // P7.6
	r := rand.New(rand.NewSource(8))
	for range 20000 {
		v := random(r)
		if w, e := Read(Literal(v)); w != v || e != api.OK {
			t.Fatal(v, w, e)
		}
		b := make([]byte, r.Intn(7))
		for i := range b {
			b[i] = "'x0-19fNUL"[r.Intn(10)]
		}
		if v, e := Read(string(b)); e == api.OK && Literal(v) != string(b) {
			t.Fatalf("%q %v", b, v)
		}
	}
}
