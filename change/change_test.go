package change

import (
	"math/rand"
	"slices"
	"strconv"
	"strings"
	"testing"

	"counterfoil/api"
	"counterfoil/number"
	"counterfoil/record"
)

func num(n int64) api.Value  { return api.Value{Kind: api.KInt, N: n} }
func txt(s string) api.Value { return api.Value{Kind: api.KText, S: s} }

// none is no row, for one.
const none = -1

// one: the change of the row of t whose key is k, of rows of one integer.
func one(k, old, new int64) api.Change {
	c := api.Change{Table: "t", Key: []api.Value{num(k)}}
	if old != none {
		c.Old = []api.Value{num(old)}
	}
	if new != none {
		c.New = []api.Value{num(new)}
	}
	return c
}

func same(a, b []api.Change) bool {
	return slices.EqualFunc(a, b, func(a, b api.Change) bool {
		return a.Table == b.Table && slices.Equal(a.Key, b.Key) && slices.Equal(a.Old, b.Old) && slices.Equal(a.New, b.New)
	})
}

func list(l ...api.Change) []api.Change { return l }

func TestCheck(t *testing.T) { // P22.1
	long := txt(strings.Repeat("l", 1000))
	with := func(f func(c *api.Change)) []api.Change {
		c := one(1, 1, 2)
		f(&c)
		return list(c)
	}
	var many []api.Change
	for i := range int64(1001) {
		many = append(many, one(i, 1, 2))
	}
	other := one(0, 1, 2)
	other.Table = "s"
	for i, l := range [][]api.Change{
		nil, list(one(1, 1, 2), one(2, none, 1), one(3, 1, none)), many[1:], list(other, one(-9, 1, 2)),
		with(func(c *api.Change) { c.Table = strings.Repeat("T", 32) }), with(func(c *api.Change) { c.Table = "\x00 any" }), with(func(c *api.Change) { c.Key = make([]api.Value, 16) }), with(func(c *api.Change) { c.Old = []api.Value{} }),
		with(func(c *api.Change) { c.New = append(c.New, num(1)) }), with(func(c *api.Change) { c.Key = slices.Repeat([]api.Value{long}, 16) }), with(func(c *api.Change) { c.Old = []api.Value{long, long, long} }),
	} {
		if e := Check(l); e != api.OK {
			t.Error(i, e)
		}
	}
	for i, l := range [][]api.Change{
		list(one(2, 1, 2), one(1, 1, 2)), list(one(1, 1, 1)), list(one(1, 1, 2), one(1, 2, 3)), many, list(one(-9, 1, 2), other), list(one(1, none, none)),
		with(func(c *api.Change) { c.Table = "" }), with(func(c *api.Change) { c.Table = strings.Repeat("T", 33) }), with(func(c *api.Change) { c.Key = nil }), with(func(c *api.Change) { c.Key = make([]api.Value, 17) }), with(func(c *api.Change) { c.Key[0].S = "x" }), with(func(c *api.Change) { c.Key[0] = txt(long.S + "l") }),
		with(func(c *api.Change) { c.Old, c.New = nil, []api.Value{} }), with(func(c *api.Change) { c.Old = make([]api.Value, 17) }), with(func(c *api.Change) { c.New[0].Kind = 9 }), with(func(c *api.Change) { c.New = []api.Value{long, long, long, long} }), with(func(c *api.Change) { c.Old = []api.Value{txt(long.S + "l")} }),
	} {
		if e := Check(l); e != api.ErrArg {
			t.Error(i, e)
		}
		if m, e := Invert(l); m != nil || e != api.ErrArg {
			t.Error(i, e)
		}
		if s, e := Put(l); s != "" || e != api.ErrArg {
			t.Error(i, e)
		}
		if m, e := Concat(l, nil); m != nil || e != api.ErrArg {
			t.Error(i, e)
		}
		if m, e := Concat(nil, l); m != nil || e != api.ErrArg {
			t.Error(i, e)
		}
	}
}

func TestMerge(t *testing.T) { // P22.2
	bad := one(1, none, 1)
	bad.New[0].Kind = 9
	back := one(1, 1, none)
	back.Old[0].Kind = 9
	odd := one(5, none, 1)
	odd.Key[0].S = "x"
	empty := one(1, none, none)
	var many []api.Change
	for i := range int64(1001) {
		many = append(many, one(1000-i, 1, 2))
	}
	for i, c := range []struct {
		l, m []api.Change
		e    api.Errno
	}{
		{nil, nil, api.OK}, {list(one(1, none, 1), one(1, 1, none)), nil, api.OK}, {list(one(1, none, 1), one(1, none, 1)), nil, api.ErrMatch}, {list(one(1, 1, none), one(1, 1, 2)), nil, api.ErrMatch},
		{list(one(2, 1, 2), one(1, 5, 6), one(2, 2, 3), one(1, 6, none)), list(one(1, 5, none), one(2, 1, 3)), api.OK}, {list(one(1, 1, 2), one(1, 2, 1), one(1, 1, 2)), list(one(1, 1, 2)), api.OK}, {list(one(1, 1, 1)), nil, api.OK}, {list(empty, one(1, none, 2)), list(one(1, none, 2)), api.OK},
		{list(bad), nil, api.ErrArg}, {list(bad, back), nil, api.OK}, {list(odd), nil, api.ErrArg}, {list(bad, one(2, 1, 2), one(2, 3, 4)), nil, api.ErrMatch}, {many, nil, api.ErrArg}, {append(many[:1000:1000], one(1, 2, 1), one(0, 1, 7)), nil, api.OK},
		{list(api.Change{Key: []api.Value{num(1)}, New: []api.Value{num(1)}}), nil, api.ErrArg}, {list(api.Change{Table: "t", New: []api.Value{num(1)}}), nil, api.ErrArg},
	} {
		m, e := Merge(c.l)
		if i == 13 {
			if len(m) != 1000 || e != api.OK {
				t.Error(len(m), e)
			}
			continue
		}
		if !same(m, c.m) || e != c.e {
			t.Error(i, m, e)
		}
	}
	kinds := list(one(1, none, 1), one(1, none, 1), one(1, none, 1))
	kinds[0].Key = []api.Value{txt("k")}
	kinds[1].Key = []api.Value{{Kind: api.KBlob, S: "k"}}
	kinds[2].Key = []api.Value{txt("k"), {}}
	if m, e := Merge(kinds); len(m) != 3 || e != api.OK {
		t.Error("keys of other kinds:", m, e)
	}
	l := list(one(1, 1, 2), one(1, 2, 3))
	Merge(l)
	if !same(l, list(one(1, 1, 2), one(1, 2, 3))) {
		t.Error("what is handed in is not changed")
	}
}

func TestInvertConcat(t *testing.T) { // P22.3, P22.4
	l := list(one(1, 1, none), one(2, none, 3), one(4, 5, 6))
	if m, e := Invert(l); !same(m, list(one(1, none, 1), one(2, 3, none), one(4, 6, 5))) || e != api.OK || !same(l, list(one(1, 1, none), one(2, none, 3), one(4, 5, 6))) {
		t.Error(m, e)
	}
	for i, c := range []struct {
		a, b, m []api.Change
		e       api.Errno
	}{
		{list(one(1, none, 1)), list(one(1, 1, none)), nil, api.OK}, {list(one(1, none, 1)), list(one(1, none, 2)), nil, api.ErrMatch}, {list(one(1, none, 1)), list(one(1, 2, none)), nil, api.ErrMatch},
		{list(one(1, 1, 2), one(3, 1, 2)), list(one(2, 1, 2), one(3, 2, 4)), list(one(1, 1, 2), one(2, 1, 2), one(3, 1, 4)), api.OK}, {nil, list(one(1, 1, 2)), list(one(1, 1, 2)), api.OK}, {list(one(1, 1, 2)), nil, list(one(1, 1, 2)), api.OK},
	} {
		if m, e := Concat(c.a, c.b); !same(m, c.m) || e != c.e {
			t.Error(i, m, e)
		}
	}
	var a, b []api.Change
	for i := range int64(600) {
		a, b = append(a, one(i, 1, 2)), append(b, one(i+400, 1, 2))
	}
	if m, e := Concat(a[:400], b); len(m) != 1000 || e != api.OK {
		t.Error(len(m), e)
	}
	for i := range b {
		b[i].Key = []api.Value{num(int64(i + 600))}
	}
	if m, e := Concat(a, b); m != nil || e != api.ErrArg {
		t.Error(len(m), e)
	}
}

// sized: a text behind how many bytes it has.
func sized(s string) string { return number.Put(uint64(len(s))) + s }

func rec(v ...api.Value) string {
	s, e := record.Put(v)
	if e != api.OK {
		panic(e)
	}
	return s
}

func TestPut(t *testing.T) { // P22.5
	if s, e := Put(nil); s != "\x00" || e != api.OK {
		t.Error(s, e)
	}
	c := api.Change{Table: "tt", Key: []api.Value{num(-1), txt("k")}, New: []api.Value{{}, txt("v")}}
	want := "\x02" + sized(rec(txt("t"))) + sized(rec(num(1))) + sized(rec(num(2))) + sized(rec()) + sized(rec(txt("tt"))) + sized(rec(c.Key...)) + sized(rec()) + sized(rec(c.New...))
	if s, e := Put(list(one(1, 2, none), c)); s != want || e != api.OK {
		t.Errorf("%x %d", s, e)
	}
}

func TestTake(t *testing.T) { // P22.5
	table, key, old, new := sized(rec(txt("t"))), sized(rec(num(1))), sized(rec(num(1))), sized(rec(num(2)))
	good := table + key + old + new
	if l, e := Take("\x01" + good); !same(l, list(one(1, 1, 2))) || e != api.OK {
		t.Error(l, e)
	}
	if l, e := Take("\x00"); len(l) != 0 || e != api.OK {
		t.Error(l, e)
	}
	for i, s := range []string{
		"", "\x00\x00", "\x01", "\x80\x00", "\x81", "\x02" + good, "\x01" + good + "\x00", "\x01" + good[1:], "\x80\x01" + good, "\x02" + good + good,
		"\x01" + sized(rec(txt(""))) + key + old + new, "\x01" + sized(rec()) + key + old + new, "\x01" + sized(rec(num(1))) + key + old + new, "\x01" + sized(rec(txt("t"), txt("t"))) + key + old + new, "\x01" + sized(rec(api.Value{Kind: api.KBlob, S: "t"})) + key + old + new, "\x01" + sized(rec(txt(strings.Repeat("t", 33)))) + key + old + new,
		"\x01" + table + sized(rec()) + old + new, "\x01" + table + sized("") + old + new, "\x01" + table + sized("\x11"+strings.Repeat("\x00", 17)) + old + new, "\x01" + table + sized("\x01\x01\x80\x05") + old + new, "\x01" + table + sized("\x01\x04") + old + new, "\x01" + table + sized("\x01\x00\x00") + old + new, "\x01" + table + sized("\x01\x80\x00") + old + new, "\x01" + table + sized("\x01\xff\xff\xff\xff\xff\xff\xff\xff\xff") + old + new,
		"\x01" + table + key + old + old, "\x01" + table + key + sized(rec()) + sized(rec()), "\x01" + table + key + old + sized(rec(num(2))+"\x00"), "\x01" + table + key + old + "\x80" + new, "\xff\xff\xff\xff\xff\xff\xff\xff\xff" + good,
		"\x01" + table + "\xff\xff\xff\xff\xff\xff\xff\xff\xff", "\x01" + table + key + old + number.Put(4) + rec(num(2)),
	} {
		if l, e := Take(s); l != nil || e != api.ErrBytes {
			t.Errorf("%d: %v %d", i, l, e)
		}
	}
}

func TestLongKey(t *testing.T) { // P22.7: a key whose record is longer than a row's
	c := one(1, 1, 2)
	c.Key = append(slices.Repeat([]api.Value{txt(strings.Repeat("k", 1000))}, 14), num(-5), api.Value{})
	s, e := Put(list(c))
	if l, f := Take(s); !same(l, list(c)) || e != api.OK || f != api.OK {
		t.Error(e, f)
	}
}

// random: a changeset of few keys, whose Old are what model says, and what it makes of that.
func random(r *rand.Rand, model map[string]int64) ([]api.Change, map[string]int64) {
	var l []api.Change
	next := map[string]int64{}
	for _, table := range []string{"t", "u"} {
		for k := range int64(4) {
			id := table + strconv.FormatInt(k, 10)
			old, ok := model[id]
			if !ok {
				old = none
			}
			new := int64(r.Intn(4)) - 1
			if r.Intn(2) == 0 {
				new = old
			}
			if new != none {
				next[id] = new
			}
			if new != old {
				c := one(k, old, new)
				c.Table = table
				l = append(l, c)
			}
		}
	}
	return l, next
}

func TestAlgebra(t *testing.T) { // P22.6, P22.7
	r := rand.New(rand.NewSource(25))
	for range 3000 {
		a, m := random(r, nil)
		b, m := random(r, m)
		c, _ := random(r, m)
		if Check(a) != api.OK || Check(b) != api.OK {
			t.Fatal(a, b)
		}
		ab, e := Concat(a, b)
		bc, f := Concat(b, c)
		x, g := Concat(ab, c)
		y, h := Concat(a, bc)
		if e != api.OK || f != api.OK || g != api.OK || h != api.OK || !same(x, y) {
			t.Fatal("of three:", a, b, c)
		}
		if l, e := Merge(slices.Concat(a, b)); !same(l, ab) || e != api.OK {
			t.Fatal("Merge:", l)
		}
		if l, e := Merge(a); !same(l, a) || e != api.OK {
			t.Fatal("Merge:", l)
		}
		i, _ := Invert(b)
		if l, e := Concat(b, i); len(l) != 0 || e != api.OK {
			t.Fatal("Invert:", l)
		}
		if l, e := Invert(i); !same(l, b) || e != api.OK {
			t.Fatal("Invert:", l)
		}
		s, _ := Put(b)
		if l, e := Take(s); !same(l, b) || e != api.OK {
			t.Fatal("Take:", l)
		}
		d := []byte(s)
		for range 1 + r.Intn(3) {
			d[r.Intn(len(d))] = byte(r.Intn(6))
		}
		if l, e := Take(string(d)); e == api.OK {
			if u, _ := Put(l); u != string(d) {
				t.Fatalf("%x %x", d, u)
			}
		}
	}
}
