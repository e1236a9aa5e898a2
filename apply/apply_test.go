package apply

import (
	"math/rand"
	"slices"
	"strconv"
	"strings"
	"testing"

	"counterfoil/api"
	"counterfoil/change"
	"counterfoil/files"
	"counterfoil/pager"
	"counterfoil/parse"
	"counterfoil/space"
	"counterfoil/store"
	"counterfoil/value"
	"counterfoil/write"
)

func num(n int64) api.Value  { return api.Value{Kind: api.KInt, N: n} }
func txt(s string) api.Value { return api.Value{Kind: api.KText, S: s} }

func row(v ...api.Value) []api.Value { return v }

// do: the statement is done, its changes.
func do(t testing.TB, p *pager.Pager, s string) ([]api.Change, api.Errno) {
	t.Helper()
	l, spot := parse.Script(s)
	if len(l) != 1 || spot.Err != api.OK {
		t.Fatal(s, spot)
	}
	_, changes, e := write.Do(p, l[0])
	return changes, e
}

// begun: a pager of a new disk, in a transaction in which these statements were done.
func begun(t testing.TB, texts ...string) *pager.Pager {
	t.Helper()
	p, e := pager.Open(files.New())
	if e != api.OK || space.Begin(p) != api.OK {
		t.Fatal("Open, Begin")
	}
	for _, s := range texts {
		if _, e := do(t, p, s); e != api.OK {
			t.Fatal(s, e)
		}
	}
	return p
}

// some: t (a INTEGER, b TEXT, key a): 1 x.
func some(t testing.TB, more ...string) *pager.Pager {
	return begun(t, append([]string{"CREATE TABLE t (a INTEGER, b TEXT, PRIMARY KEY (a))", "INSERT INTO t (a, b) VALUES (1, 'x')"}, more...)...)
}

// has: the rows of a table, by their literals.
func has(t testing.TB, p *pager.Pager, table string) string {
	t.Helper()
	rows, e := store.Rows(p, table, "", nil)
	if e != api.OK {
		t.Fatal(e)
	}
	var l []string
	for _, r := range rows {
		var s []string
		for _, v := range r {
			s = append(s, value.Literal(v))
		}
		l = append(l, strings.Join(s, " "))
	}
	return strings.Join(l, "; ")
}

// of: the change of the row of t whose key is k, where b is what is in b ("-": no row).
func of(k int64, old, new string) api.Change {
	c := api.Change{Table: "t", Key: row(num(k))}
	if old != "-" {
		c.Old = row(num(k), txt(old))
	}
	if new != "-" {
		c.New = row(num(k), txt(new))
	}
	return c
}

// all: the policy with that way for each conflict.
func all(way uint8) api.Policy {
	return api.Policy{Differs: way, Exists: way, Missing: way, Fails: way}
}

// pages: all pages, one behind the other.
func pages(t testing.TB, p *pager.Pager) string {
	var b strings.Builder
	for n := 1; n <= p.Pages(); n++ {
		s, e := p.Read(n)
		if e != api.OK {
			t.Fatal(e)
		}
		b.WriteString(s)
	}
	return b.String()
}

func TestExamples(t *testing.T) { // P23.1
	bad := of(2, "-", "x")
	bad.New[1] = num(7)
	for i, c := range []struct {
		l    []api.Change
		has  [3]string // with omit, replace, abort
		done [3]api.Tally
	}{
		{[]api.Change{of(1, "x", "y")}, [3]string{"1 'y'", "1 'y'", "1 'y'"}, [3]api.Tally{{Done: 1}, {Done: 1}, {Done: 1}}},
		{[]api.Change{of(1, "z", "y")}, [3]string{"1 'x'", "1 'y'", ""}, [3]api.Tally{{Omitted: 1}, {Replaced: 1}}},
		{[]api.Change{of(1, "-", "y"), of(2, "x", "-")}, [3]string{"1 'x'", "1 'y'", ""}, [3]api.Tally{{Omitted: 2}, {Replaced: 2}}},
		{[]api.Change{bad}, [3]string{"1 'x'", "1 'x'", ""}, [3]api.Tally{{Failed: 1}, {Failed: 1}}},
		{nil, [3]string{"1 'x'", "1 'x'", "1 'x'"}, [3]api.Tally{}},
		{[]api.Change{of(1, "x", "-"), of(3, "-", "w")}, [3]string{"3 'w'", "3 'w'", "3 'w'"}, [3]api.Tally{{Done: 2}, {Done: 2}, {Done: 2}}},
		{[]api.Change{of(1, "z", "-"), of(2, "q", "w"), of(3, "-", "w")}, [3]string{"1 'x'; 3 'w'", "2 'w'; 3 'w'", ""}, [3]api.Tally{{Omitted: 2, Done: 1}, {Replaced: 2, Done: 1}}},
	} {
		for way := range uint8(3) {
			p := some(t)
			before := pages(t, p)
			n, e := Do(p, c.l, all(way))
			if c.has[way] == "" {
				if n != (api.Tally{}) || e != api.ErrConflict || pages(t, p) != before {
					t.Error(i, way, n, e)
				}
			} else if n != c.done[way] || e != api.OK || has(t, p, "t") != c.has[way] {
				t.Error(i, way, n, e, has(t, p, "t"))
			}
			if p.Back(1) != api.ErrRange {
				t.Error("a savepoint is left")
			}
			if _, e := store.Check(p); e != api.OK {
				t.Error(e)
			}
		}
	}
}

func TestWays(t *testing.T) { // P23.1: each kind of conflict has its way
	l := []api.Change{of(1, "z", "d"), of(2, "-", "e"), of(3, "q", "m"), {Table: "u", Key: row(num(1)), New: row(num(1))}}
	for i := range 81 {
		y := api.Policy{Differs: uint8(i % 3), Exists: uint8(i / 3 % 3), Missing: uint8(i / 9 % 3), Fails: uint8(i / 27)}
		p := some(t, "INSERT INTO t (a, b) VALUES (2, 'x')")
		var want []string
		n := api.Tally{Failed: 1}
		abort := y.Fails == api.WayAbort
		for k, way := range []uint8{y.Differs, y.Exists, y.Missing} {
			switch way {
			case api.WayOmit:
				n.Omitted++
				if k < 2 {
					want = append(want, strconv.Itoa(k+1)+" 'x'")
				}
			case api.WayReplace:
				n.Replaced++
				want = append(want, strconv.Itoa(k+1)+" '"+"dem"[k:k+1]+"'")
			default:
				abort = true
			}
		}
		e := api.OK
		if abort {
			n, want, e = api.Tally{}, []string{"1 'x'", "2 'x'"}, api.ErrConflict
		}
		if m, f := Do(p, l, y); m != n || f != e || has(t, p, "t") != strings.Join(want, "; ") {
			t.Error(y, m, f, has(t, p, "t"))
		}
	}
}

func TestFits(t *testing.T) { // what does not fit fails
	for i, c := range []api.Change{
		{Table: "u", Key: row(num(1)), Old: row(num(1), txt("x"))}, {Table: "t", Key: row(num(1), num(2)), Old: row(num(1), txt("x"))}, {Table: "t", Key: row(num(1)), Old: row(num(1))}, {Table: "t", Key: row(num(1)), Old: row(num(1), txt("x"), txt("y"))},
		{Table: "t", Key: row(num(1)), Old: row(num(2), txt("x"))}, {Table: "t", Key: row(num(1)), Old: row(num(1), txt("x")), New: row(num(2), txt("x"))}, {Table: "t", Key: row(num(3)), New: row(num(3))}, {Table: "t", Key: row(num(3)), New: row(txt("3"), txt("x"))},
		{Table: "t", Key: row(txt("k")), New: row(txt("k"), txt("x"))}, {Table: "t", Key: row(api.Value{}), New: row(api.Value{}, txt("x"))}, {Table: "t", Key: row(txt(strings.Repeat("k", 200))), New: row(txt(strings.Repeat("k", 200)), txt("x"))}, {Table: "T", Key: row(num(1)), Old: row(num(1), txt("x"))},
	} {
		for way := range uint8(2) {
			p := some(t)
			if n, e := Do(p, []api.Change{c}, all(way)); n != (api.Tally{Failed: 1}) || e != api.OK || has(t, p, "t") != "1 'x'" {
				t.Error(i, n, e, has(t, p, "t"))
			}
		}
		p := some(t)
		if n, e := Do(p, []api.Change{c}, api.Policy{Fails: api.WayAbort}); n != (api.Tally{}) || e != api.ErrConflict || has(t, p, "t") != "1 'x'" {
			t.Error(i, n, e)
		}
	}
}

func TestFails(t *testing.T) { // what store.Insert refuses fails, and its key has no row then
	long := strings.Repeat("l", 90)
	for i, c := range []struct {
		l    []api.Change
		n    api.Tally
		has  string
		undo bool
	}{
		{[]api.Change{of(1, "x", "y"), of(2, "-", "y")}, api.Tally{Done: 1, Failed: 1}, "1 'y'; 3 'w'", true},                                                                      // unique
		{[]api.Change{of(1, "x", "w")}, api.Tally{Failed: 1}, "3 'w'", true},                                                                                                       // its key has no row then
		{[]api.Change{of(1, "z", "w")}, api.Tally{Failed: 1}, "3 'w'", true},                                                                                                       // also where it differs
		{[]api.Change{of(1, "x", "w"), of(3, "w", "x")}, api.Tally{Done: 2}, "1 'w'; 3 'x'", false},                                                                                // all are taken away first
		{[]api.Change{of(1, "x", long)}, api.Tally{Failed: 1}, "3 'w'", true},                                                                                                      // too long for the index
		{[]api.Change{{Table: "t", Key: row(num(1)), Old: row(num(1), txt("x")), New: row(num(1), api.Value{})}}, api.Tally{Failed: 1}, "3 'w'", true},                             // null
		{[]api.Change{{Table: "t", Key: row(num(1)), Old: row(num(1), txt("x")), New: row(num(1), num(1))}, of(5, "-", "v")}, api.Tally{Failed: 1, Done: 1}, "3 'w'; 5 'v'", true}, // of another kind
	} {
		y := all(api.WayReplace)
		p := begun(t, "CREATE TABLE t (a INTEGER, b TEXT NOT NULL, PRIMARY KEY (a))", "CREATE UNIQUE INDEX i ON t (b)", "INSERT INTO t (a, b) VALUES (1, 'x'), (3, 'w')")
		if n, e := Do(p, c.l, y); n != c.n || e != api.OK || has(t, p, "t") != c.has {
			t.Error(i, n, e, has(t, p, "t"))
		}
		if _, e := store.Check(p); e != api.OK {
			t.Error(i, e)
		}
		p = begun(t, "CREATE TABLE t (a INTEGER, b TEXT NOT NULL, PRIMARY KEY (a))", "CREATE UNIQUE INDEX i ON t (b)", "INSERT INTO t (a, b) VALUES (1, 'x'), (3, 'w')")
		y.Fails = api.WayAbort
		if n, e := Do(p, c.l, y); c.undo && (n != (api.Tally{}) || e != api.ErrConflict || has(t, p, "t") != "1 'x'; 3 'w'") {
			t.Error(i, n, e, has(t, p, "t"))
		}
	}
}

func TestState(t *testing.T) { // P23.1, P23.2: what is refused
	wrong := []api.Change{of(1, "x", "x")}
	for _, e := range []api.Errno{api.ErrNil, api.ErrState, api.ErrFull, api.ErrArg} {
		p := some(t)
		switch e {
		case api.ErrNil:
			p = nil
		case api.ErrState:
			p.Rollback()
		case api.ErrFull:
			for range 64 {
				p.Save()
			}
		}
		if n, f := Do(p, wrong, all(9)); n != (api.Tally{}) || f != e {
			t.Error(e, n, f)
		}
		if e == api.ErrArg {
			e = api.ErrBytes
		}
		if n, f := Bytes(p, "", all(9)); n != (api.Tally{}) || f != e {
			t.Error(e, n, f)
		}
	}
	p := some(t)
	for _, y := range []api.Policy{{Differs: 3}, {Exists: 3}, {Missing: 255}, {Fails: 3}} {
		if _, e := Do(p, nil, y); e != api.ErrArg {
			t.Error(y, e)
		}
		if _, e := Bytes(p, "\x00", y); e != api.ErrArg {
			t.Error(y, e)
		}
	}
	space.SetRoot(p, 0, 3)
	if _, e := Do(p, wrong, all(0)); e != api.ErrArg {
		t.Error(e)
	}
	if _, e := Do(p, nil, all(0)); e != api.ErrBytes {
		t.Error(e)
	}
	p = some(t)
	s, _ := change.Put([]api.Change{of(1, "x", "y"), of(2, "-", "z")})
	if n, e := Bytes(p, s, all(api.WayAbort)); n != (api.Tally{Done: 2}) || e != api.OK || has(t, p, "t") != "1 'y'; 2 'z'" {
		t.Error(n, e)
	}
	if n, e := Bytes(p, s+"\x00", all(0)); n != (api.Tally{}) || e != api.ErrBytes {
		t.Error(n, e)
	}
}

func TestFull(t *testing.T) { // another error undoes all, too
	p := some(t)
	for i := int64(2); ; i++ {
		if _, e := do(t, p, "INSERT INTO t (a, b) VALUES ("+strconv.FormatInt(i, 10)+", '"+strings.Repeat("w", 900)+"')"); e != api.OK {
			break
		}
	}
	before := pages(t, p)
	l := []api.Change{of(-1, "-", "q"), of(1, "x", "y"), of(5000, "-", strings.Repeat("w", 990)), of(5001, "-", strings.Repeat("w", 990))}
	if n, e := Do(p, l, all(0)); n != (api.Tally{}) || e != api.ErrFull || pages(t, p) != before {
		t.Error(n, e)
	}
}

// random: a statement that changes rows of t or u.
func random(r *rand.Rand) string {
	of := func(l ...string) string { return l[r.Intn(len(l))] }
	n := of("0", "1", "2", "3", "4", "5")
	return of("INSERT INTO t (a, b) VALUES ("+n+", 'x'), ("+n+" + 2, 'y')", "UPDATE t SET a = a + 1", "UPDATE t SET a = 5 - a", "UPDATE t SET b = b || '"+n+"' WHERE a > "+n, "DELETE FROM t WHERE a = "+n, "INSERT INTO u (c, d) VALUES ('"+n+"', "+n+")", "UPDATE u SET d = d + 1", "UPDATE u SET c = c || 'z' WHERE d = "+n, "DELETE FROM u WHERE d < "+n)
}

func TestThereAndBack(t *testing.T) { // P23.3, P23.4
	r := rand.New(rand.NewSource(26))
	for range 60 {
		texts := []string{"CREATE TABLE t (a INTEGER, b TEXT, PRIMARY KEY (a))", "CREATE TABLE u (c TEXT, d INTEGER, PRIMARY KEY (c, d))", []string{"CREATE INDEX i ON t (b)", "CREATE UNIQUE INDEX i ON t (b, a)"}[r.Intn(2)], "INSERT INTO t (a, b) VALUES (1, 'p'), (4, 'q')"}
		p, q, both := begun(t, texts...), begun(t, texts...), begun(t, texts...)
		state := func(p *pager.Pager) string { return has(t, p, "t") + "/" + has(t, p, "u") }
		var sets [][]api.Change
		for range 2 {
			before := state(p)
			var l []api.Change
			for range 1 + r.Intn(6) {
				c, _ := do(t, p, random(r))
				l = append(l, c...)
			}
			c, e := change.Merge(l)
			if e != api.OK {
				t.Fatal(e)
			}
			sets = append(sets, c)
			y := all(uint8(r.Intn(3)))
			if n, e := Do(q, c, y); n != (api.Tally{Done: len(c)}) || e != api.OK || state(q) != state(p) {
				t.Fatal(n, e, state(q), state(p))
			}
			back, _ := change.Invert(c)
			if n, e := Do(q, back, y); n != (api.Tally{Done: len(c)}) || e != api.OK || state(q) != before {
				t.Fatal(n, e, state(q), before)
			}
			s, _ := change.Put(c)
			if n, e := Bytes(q, s, y); n != (api.Tally{Done: len(c)}) || e != api.OK || state(q) != state(p) {
				t.Fatal(n, e)
			}
		}
		c, e := change.Concat(sets[0], sets[1])
		if n, f := Do(both, c, all(api.WayAbort)); e != api.OK || n != (api.Tally{Done: len(c)}) || f != api.OK || state(both) != state(p) {
			t.Fatal(e, n, f)
		}
		for _, p := range []*pager.Pager{p, q, both} {
			if _, e := store.Check(p); e != api.OK {
				t.Fatal(e)
			}
		}
	}
}

func TestAgainstMap(t *testing.T) { // P23.1: the three rounds on a plain map
	r := rand.New(rand.NewSource(27))
	for range 300 {
		p := begun(t, "CREATE TABLE t (a INTEGER, b TEXT, PRIMARY KEY (a))", "CREATE UNIQUE INDEX i ON t (b)")
		m := map[int64]string{}
		some := func() string { return []string{"-", "p", "q", "r", "s"}[r.Intn(5)] }
		for k := range int64(4) {
			if s := some(); s != "-" && store.Insert(p, "t", row(num(k), txt(s))) == api.OK {
				m[k] = s
			}
		}
		var l []api.Change
		for k := range int64(5) {
			if c := of(k, some(), some()); change.Check([]api.Change{c}) == api.OK {
				l = append(l, c)
			}
		}
		y := api.Policy{Differs: uint8(r.Intn(3)), Exists: uint8(r.Intn(3)), Missing: uint8(r.Intn(3)), Fails: uint8(r.Intn(3))}
		before := has(t, p, "t")
		var n api.Tally
		e := api.OK
		type job struct {
			k        int64
			new      string
			replaced bool
		}
		var jobs []job
		for _, c := range l {
			k := c.Key[0].N
			now, there := m[k]
			new := "-"
			if len(c.New) > 0 {
				new = c.New[1].S
			}
			way := uint8(99)
			switch {
			case len(c.Old) == 0 && there:
				way = y.Exists
			case len(c.Old) > 0 && !there:
				way = y.Missing
			case there && now != c.Old[1].S:
				way = y.Differs
			}
			switch way {
			case api.WayAbort:
				e = api.ErrConflict
			case api.WayOmit:
				n.Omitted++
			default:
				jobs = append(jobs, job{k, new, way != 99})
			}
		}
		for _, j := range jobs {
			delete(m, j.k)
		}
		for _, j := range jobs {
			taken := false
			for _, s := range m {
				taken = taken || s == j.new
			}
			switch {
			case j.new != "-" && taken && y.Fails == api.WayAbort:
				e = api.ErrConflict
			case j.new != "-" && taken:
				n.Failed++
				continue
			case j.new != "-":
				m[j.k] = j.new
			}
			if j.replaced {
				n.Replaced++
			} else {
				n.Done++
			}
		}
		got, f := Do(p, l, y)
		if f != e {
			t.Fatal(l, y, f, e)
		}
		if e != api.OK {
			if got != (api.Tally{}) || has(t, p, "t") != before {
				t.Fatal("undone:", got)
			}
			continue
		}
		var keys []int64
		for k := range m {
			keys = append(keys, k)
		}
		slices.Sort(keys)
		var want []string
		for _, k := range keys {
			want = append(want, strconv.FormatInt(k, 10)+" '"+m[k]+"'")
		}
		if got != n || has(t, p, "t") != strings.Join(want, "; ") {
			t.Fatal(l, y, got, n, has(t, p, "t"), want)
		}
	}
}
