package rebase

import (
	"math/rand"
	"slices"
	"strings"
	"testing"

	"counterfoil/api"
	"counterfoil/apply"
	"counterfoil/change"
	"counterfoil/files"
	"counterfoil/pager"
	"counterfoil/parse"
	"counterfoil/space"
	"counterfoil/store"
	"counterfoil/value"
	"counterfoil/write"
)

func num(n int64) []api.Value { return []api.Value{{Kind: api.KInt, N: n}} }

// none is no row, for one.
const none = -1

// one: the change of the row of t whose key is k, of rows of one integer.
func one(k, old, new int64) api.Change {
	c := api.Change{Table: "t", Key: num(k)}
	if old != none {
		c.Old = num(old)
	}
	if new != none {
		c.New = num(new)
	}
	return c
}

func list(l ...api.Change) []api.Change { return l }

func same(a, b []api.Change) bool {
	return slices.EqualFunc(a, b, func(a, b api.Change) bool {
		return a.Table == b.Table && slices.Equal(a.Key, b.Key) && slices.Equal(a.Old, b.Old) && slices.Equal(a.New, b.New)
	})
}

func TestUpon(t *testing.T) { // P24.1, P24.2, and the examples
	s := one(1, 5, 9)
	s.Table = "s"
	for i, c := range []struct{ ours, theirs, win, lose, meets []api.Change }{
		{list(one(1, 5, 6)), list(one(1, 5, 7)), list(one(1, 7, 6)), nil, list(one(1, 5, 6))},
		{list(one(1, 5, none)), list(one(1, 5, 7)), list(one(1, 7, none)), nil, list(one(1, 5, none))},
		{list(one(1, 5, 6)), list(one(1, 5, none)), list(one(1, none, 6)), nil, list(one(1, 5, 6))},
		{list(one(1, none, 6)), list(one(1, none, 7)), list(one(1, 7, 6)), nil, list(one(1, none, 6))},
		{list(one(1, 5, 6), one(2, none, 1)), list(one(1, 5, 6)), list(one(2, none, 1)), list(one(2, none, 1)), nil},
		{list(one(1, 5, none)), list(one(1, 5, none)), nil, nil, nil},
		{list(s, one(1, 5, 6), one(3, 5, 6), one(5, 5, 6)), list(one(0, 1, 2), one(1, 5, 8), one(4, 1, 2), one(5, 5, 6), one(6, 1, 2)), list(s, one(1, 8, 6), one(3, 5, 6)), list(s, one(3, 5, 6)), list(one(1, 5, 6))},
		{nil, list(one(1, 5, 6)), nil, nil, nil}, {list(one(1, 5, 6)), nil, list(one(1, 5, 6)), list(one(1, 5, 6)), nil}, {nil, nil, nil, nil, nil},
	} {
		for k, want := range [][]api.Change{c.lose, c.win} {
			if l, e := Upon(c.ours, c.theirs, k == 1); !same(l, want) || e != api.OK {
				t.Error(i, k, l, e)
			}
		}
		if l, e := Meets(c.ours, c.theirs); !same(l, c.meets) || e != api.OK {
			t.Error(i, l, e)
		}
	}
}

func TestErrors(t *testing.T) { // P24.1, P24.2
	wrong := list(one(1, 1, 1))
	for i, c := range []struct {
		ours, theirs []api.Change
		e            api.Errno
	}{
		{list(one(1, 5, 6)), list(one(1, 4, 6)), api.ErrMatch}, {list(one(1, 5, 6)), list(one(1, none, 6)), api.ErrMatch}, {list(one(1, 1, 2), one(2, 5, 6)), list(one(1, 1, 2), one(2, 6, 5)), api.ErrMatch},
		{wrong, nil, api.ErrArg}, {nil, wrong, api.ErrArg}, {list(one(1, 5, 6)), append(list(one(1, 4, 6)), wrong...), api.ErrArg},
	} {
		for _, win := range []bool{false, true} {
			if l, e := Upon(c.ours, c.theirs, win); l != nil || e != c.e {
				t.Error(i, l, e)
			}
		}
		if l, e := Meets(c.ours, c.theirs); l != nil || e != c.e {
			t.Error(i, l, e)
		}
	}
}

// do: the statement is done, its changes.
func do(t testing.TB, p *pager.Pager, s string) []api.Change {
	t.Helper()
	l, spot := parse.Script(s)
	if len(l) != 1 || spot.Err != api.OK {
		t.Fatal(s, spot)
	}
	_, changes, _ := write.Do(p, l[0])
	return changes
}

// begun: a pager of a new disk, in a transaction, with the tables t and u.
func begun(t testing.TB) *pager.Pager {
	t.Helper()
	p, e := pager.Open(files.New())
	if e != api.OK || space.Begin(p) != api.OK {
		t.Fatal("Open, Begin")
	}
	for _, s := range []string{"CREATE TABLE t (a INTEGER, b TEXT, PRIMARY KEY (a))", "CREATE TABLE u (c TEXT, d INTEGER, PRIMARY KEY (c))", "CREATE INDEX i ON t (b)", "INSERT INTO t (a, b) VALUES (1, 'p'), (2, 'q'), (4, 'r')", "INSERT INTO u (c, d) VALUES ('1', 1), ('2', 2)"} {
		do(t, p, s)
	}
	return p
}

// has: all rows.
func has(t testing.TB, p *pager.Pager) string {
	t.Helper()
	var b strings.Builder
	for _, table := range []string{"t", "u"} {
		rows, e := store.Rows(p, table, "", nil)
		if e != api.OK {
			t.Fatal(e)
		}
		for _, r := range rows {
			for _, v := range r {
				b.WriteString(value.Literal(v) + " ")
			}
		}
		b.WriteString("/")
	}
	return b.String()
}

// random: what some statements make of a database.
func random(t testing.TB, r *rand.Rand) []api.Change {
	p := begun(t)
	var l []api.Change
	for range 1 + r.Intn(4) {
		of := func(l ...string) string { return l[r.Intn(len(l))] }
		n := of("0", "1", "2", "3", "4", "5")
		l = append(l, do(t, p, of("INSERT INTO t (a, b) VALUES ("+n+", 'x')", "UPDATE t SET a = a + 1", "UPDATE t SET a = 5 - a WHERE a > "+n, "UPDATE t SET b = b || '"+n+"' WHERE a > "+n, "DELETE FROM t WHERE a = "+n, "INSERT INTO u (c, d) VALUES ('"+n+"', "+n+")", "UPDATE u SET d = d + "+n, "DELETE FROM u WHERE d < "+n))...)
	}
	c, e := change.Merge(l)
	if e != api.OK {
		t.Fatal(e)
	}
	return c
}

func TestWhatFollows(t *testing.T) { // P24.3 to P24.5
	r := rand.New(rand.NewSource(28))
	met := 0
	for range 150 {
		ours, theirs := random(t, r), random(t, r)
		m, _ := Meets(ours, theirs)
		met += len(m)
		for _, win := range []bool{false, true} {
			mine, e := Upon(ours, theirs, win)
			their, f := Upon(theirs, ours, !win)
			x, g := change.Concat(theirs, mine)
			y, h := change.Concat(ours, their)
			if e != api.OK || f != api.OK || g != api.OK || h != api.OK || !same(x, y) {
				t.Fatal(win, ours, theirs)
			}
			way := map[bool]uint8{false: api.WayOmit, true: api.WayReplace}[win]
			p, q := begun(t), begun(t)
			abort := api.Policy{Differs: api.WayAbort, Exists: api.WayAbort, Missing: api.WayAbort, Fails: api.WayAbort}
			for _, l := range [][]api.Change{theirs, mine} {
				if n, e := apply.Do(p, l, abort); n != (api.Tally{Done: len(l)}) || e != api.OK {
					t.Fatal(n, e)
				}
			}
			apply.Do(q, theirs, abort)
			if _, e := apply.Do(q, ours, api.Policy{Differs: way, Exists: way, Missing: way, Fails: api.WayAbort}); e != api.OK || has(t, p) != has(t, q) {
				t.Fatal(win, has(t, p), has(t, q), e)
			}
			if l, e := Upon(ours, nil, win); !same(l, ours) || e != api.OK {
				t.Fatal(l, e)
			}
			if l, e := Upon(ours, ours, win); len(l) != 0 || e != api.OK {
				t.Fatal(l, e)
			}
		}
	}
	if met < 50 {
		t.Error("too few:", met)
	}
}
