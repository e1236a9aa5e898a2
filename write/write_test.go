package write

import (
	"math/rand"
	"slices"
	"strings"
	"testing"

	"counterfoil/api"
	"counterfoil/eval"
	"counterfoil/files"
	"counterfoil/pager"
	"counterfoil/parse"
	"counterfoil/schema"
	"counterfoil/space"
	"counterfoil/store"
	"counterfoil/value"
)

func stmt(t testing.TB, s string) api.Stmt {
	t.Helper()
	l, spot := parse.Script(s)
	if len(l) != 1 || spot.Err != api.OK {
		t.Fatal(s, spot)
	}
	return l[0]
}

// begun: a pager of a new disk, in a transaction in which these statements were done.
func begun(t testing.TB, texts ...string) *pager.Pager {
	t.Helper()
	p, e := pager.Open(files.New())
	if e != api.OK || space.Begin(p) != api.OK {
		t.Fatal("Open, Begin")
	}
	for _, s := range texts {
		if _, _, e := Do(p, stmt(t, s)); e != api.OK {
			t.Fatal(s, e)
		}
	}
	return p
}

// some: t (a INTEGER, b TEXT, key a): 1 x, 2 y.
func some(t testing.TB, more ...string) *pager.Pager {
	return begun(t, append([]string{"CREATE TABLE t (a INTEGER, b TEXT, PRIMARY KEY (a))", "INSERT INTO t (a, b) VALUES (1, 'x'), (2, 'y')"}, more...)...)
}

// one: a row by its literals; none of none.
func one(row []api.Value) string {
	if len(row) == 0 {
		return "none"
	}
	var l []string
	for _, v := range row {
		l = append(l, value.Literal(v))
	}
	return strings.Join(l, " ")
}

// has: the rows of t.
func has(t testing.TB, p *pager.Pager) string {
	t.Helper()
	rows, e := store.Rows(p, "t", "", nil)
	if e != api.OK {
		t.Fatal(e)
	}
	var l []string
	for _, r := range rows {
		l = append(l, one(r))
	}
	return strings.Join(l, "; ")
}

// told: changes, as key: old to new.
func told(l []api.Change) string {
	var r []string
	for _, c := range l {
		r = append(r, c.Table+" "+one(c.Key)+": "+one(c.Old)+" to "+one(c.New))
	}
	return strings.Join(r, "; ")
}

func TestDo(t *testing.T) { // P20.1 to P20.4, and the examples
	for _, c := range []struct {
		s       string
		n       int
		e       api.Errno
		changes string
		has     string
	}{
		{"UPDATE t SET a = 3 - a", 2, api.OK, "t 1: 1 'x' to none; t 2: 2 'y' to none; t 2: none to 2 'x'; t 1: none to 1 'y'", "1 'y'; 2 'x'"},
		{"INSERT INTO t (a) VALUES (5), (1)", 0, api.ErrUnique, "", "1 'x'; 2 'y'"},
		{"UPDATE t SET b = 'z' WHERE a = 2", 1, api.OK, "t 2: 2 'y' to 2 'z'", "1 'x'; 2 'z'"},
		{"DELETE FROM t WHERE a > 7", 0, api.OK, "", "1 'x'; 2 'y'"},
		{"BEGIN", 0, api.ErrArg, "", "1 'x'; 2 'y'"}, {"SELECT * FROM t", 0, api.ErrArg, "", "1 'x'; 2 'y'"}, {"SAVEPOINT s", 0, api.ErrArg, "", "1 'x'; 2 'y'"},
		{"INSERT INTO t (b, a) VALUES ('w', 7), (NULL, 3 + 2)", 2, api.OK, "t 7: none to 7 'w'; t 5: none to 5 NULL", "1 'x'; 2 'y'; 5 NULL; 7 'w'"},
		{"INSERT INTO t (a) VALUES (3), (9223372036854775807 + 1)", 0, api.ErrOver, "", "1 'x'; 2 'y'"}, {"INSERT INTO t (a) VALUES (1), (9223372036854775807 + 1)", 0, api.ErrUnique, "", "1 'x'; 2 'y'"}, {"INSERT INTO t (b) VALUES ('x')", 0, api.ErrNull, "", "1 'x'; 2 'y'"}, {"INSERT INTO t (a, b) VALUES (3, 4)", 0, api.ErrType, "", "1 'x'; 2 'y'"}, {"INSERT INTO u (a) VALUES (3)", 0, api.ErrTable, "", "1 'x'; 2 'y'"},
		{"UPDATE t SET a = a + 1", 2, api.OK, "t 1: 1 'x' to none; t 2: 2 'y' to none; t 2: none to 2 'x'; t 3: none to 3 'y'", "2 'x'; 3 'y'"},
		{"UPDATE t SET a = 3", 0, api.ErrUnique, "", "1 'x'; 2 'y'"}, {"UPDATE t SET a = 2 WHERE a = 1", 0, api.ErrUnique, "", "1 'x'; 2 'y'"}, {"UPDATE t SET a = NULL", 0, api.ErrNull, "", "1 'x'; 2 'y'"},
		{"UPDATE t SET a = a, b = 'q' WHERE a = 1 OR b = 'y'", 2, api.OK, "t 1: 1 'x' to 1 'q'; t 2: 2 'y' to 2 'q'", "1 'q'; 2 'q'"}, {"UPDATE t SET b = b", 2, api.OK, "t 1: 1 'x' to 1 'x'; t 2: 2 'y' to 2 'y'", "1 'x'; 2 'y'"},
		{"UPDATE t SET a = a * 2 WHERE a > 0", 2, api.OK, "t 1: 1 'x' to none; t 2: 2 'y' to none; t 2: none to 2 'x'; t 4: none to 4 'y'", "2 'x'; 4 'y'"}, {"UPDATE t SET a = 2 - a, b = 'n'", 2, api.OK, "t 2: 2 'y' to none; t 1: 1 'x' to 1 'n'; t 0: none to 0 'n'", "0 'n'; 1 'n'"},
		{"UPDATE t SET a = 9223372036854775806 + a", 0, api.ErrOver, "", "1 'x'; 2 'y'"}, {"UPDATE t SET a = 1, b = -b", 0, api.ErrType, "", "1 'x'; 2 'y'"}, {"UPDATE t SET b = 'z' WHERE 9223372036854775806 + a > 0", 0, api.ErrOver, "", "1 'x'; 2 'y'"}, {"UPDATE t SET b = NULL, a = 9 WHERE a = 8", 0, api.OK, "", "1 'x'; 2 'y'"},
		{"DELETE FROM t", 2, api.OK, "t 1: 1 'x' to none; t 2: 2 'y' to none", ""}, {"DELETE FROM t WHERE b = 'y'", 1, api.OK, "t 2: 2 'y' to none", "1 'x'"}, {"DELETE FROM t WHERE 9223372036854775806 + a > 0", 0, api.ErrOver, "", "1 'x'; 2 'y'"}, {"DELETE FROM t WHERE x", 0, api.ErrColumn, "", "1 'x'; 2 'y'"},
		{"CREATE TABLE u (a TEXT, PRIMARY KEY (a))", 0, api.OK, "", "1 'x'; 2 'y'"}, {"CREATE TABLE t (a TEXT, PRIMARY KEY (a))", 0, api.ErrExists, "", "1 'x'; 2 'y'"}, {"CREATE UNIQUE INDEX i ON t (b)", 0, api.OK, "", "1 'x'; 2 'y'"}, {"DROP INDEX i", 0, api.ErrIndex, "", "1 'x'; 2 'y'"}, {"DROP TABLE u", 0, api.ErrTable, "", "1 'x'; 2 'y'"},
	} {
		p := some(t)
		n, changes, e := Do(p, stmt(t, c.s))
		if n != c.n || e != c.e || told(changes) != c.changes || has(t, p) != c.has {
			t.Errorf("%s: %d %d %s / %s", c.s, n, e, told(changes), has(t, p))
		}
		if p.Back(1) != api.ErrRange {
			t.Error(c.s, ": a savepoint is left")
		}
	}
}

func TestUniqueIndex(t *testing.T) { // all are taken away ahead of all that are put there
	p := some(t, "CREATE UNIQUE INDEX i ON t (b)")
	n, changes, e := Do(p, stmt(t, "UPDATE t SET b = 'xy' WHERE b = 'x' OR b = 'y'"))
	if n != 0 || changes != nil || e != api.ErrUnique || has(t, p) != "1 'x'; 2 'y'" {
		t.Error(n, changes, e, has(t, p))
	}
	n, changes, e = Do(p, stmt(t, "UPDATE t SET a = 3 - a"))
	if n != 2 || len(changes) != 4 || e != api.OK || has(t, p) != "1 'y'; 2 'x'" {
		t.Error(n, changes, e, has(t, p))
	}
	if _, e := store.Check(p); e != api.OK {
		t.Error(e)
	}
}

func TestState(t *testing.T) { // P20.1
	s := stmt(t, "BEGIN")
	if n, c, e := Do(nil, s); n != 0 || c != nil || e != api.ErrNil {
		t.Error(e)
	}
	p := some(t)
	space.SetRoot(p, 0, 3)
	if _, _, e := Do(p, s); e != api.ErrBytes {
		t.Error("Tables' error:", e)
	}
	for range 64 {
		p.Save()
	}
	if _, _, e := Do(p, s); e != api.ErrFull {
		t.Error(e)
	}
	p.Rollback()
	if _, _, e := Do(p, s); e != api.ErrState {
		t.Error(e)
	}
	p = some(t)
	for range 63 {
		p.Save()
	}
	if n, _, e := Do(p, stmt(t, "DELETE FROM t")); n != 2 || e != api.OK {
		t.Error(n, e)
	}
}

// pages: all pages, one behind the other.
func pages(t testing.TB, p *pager.Pager) string {
	var b strings.Builder
	for n := 1; n <= p.Pages(); n++ {
		s, e := p.Read(n)
		if e != api.OK {
			t.Fatal(e)
		}
		b.WriteString(s)
	}
	return b.String()
}

func TestFull(t *testing.T) { // where there is no room nothing has become otherwise
	p := begun(t, "CREATE TABLE t (a INTEGER, b TEXT, PRIMARY KEY (a))", "CREATE INDEX i ON t (a, b)", "INSERT INTO t (a) VALUES (0)")
	full := 0
	for i := range 80 {
		s := stmt(t, "INSERT INTO t (a, b) VALUES (1, '')")
		row := s.Rows[0]
		s.Rows = nil
		for k := range 12 {
			r := slices.Clone(row)
			r[0].V.N = int64(100*i + k + 1)
			r[1].V.S = strings.Repeat("w", 70)
			s.Rows = append(s.Rows, r)
		}
		before := pages(t, p)
		n, c, e := Do(p, s)
		switch {
		case e == api.OK && n == 12 && len(c) == 12:
		case e == api.ErrFull && n == 0 && c == nil && pages(t, p) == before:
			full++
		default:
			t.Fatal(n, e)
		}
	}
	if full == 0 {
		t.Error("never full")
	}
}

func TestChanges(t *testing.T) { // P20.5
	r := rand.New(rand.NewSource(23))
	for range 60 {
		p := begun(t, "CREATE TABLE t (a INTEGER, b TEXT, c INTEGER, PRIMARY KEY (a))", []string{"CREATE INDEX i ON t (c)", "CREATE UNIQUE INDEX i ON t (b, c)"}[r.Intn(2)])
		model := map[int64]string{} // rows by their keys
		of := func(l ...string) string { return l[r.Intn(len(l))] }
		for range 40 {
			n := of("0", "1", "2", "3", "4", "5", "6")
			s := of("INSERT INTO t (a, b, c) VALUES ("+n+", 'x', "+of("1", "2", "NULL")+"), ("+n+" + 2, 'y', 1)", "UPDATE t SET a = a + 1 WHERE a > "+n, "UPDATE t SET a = 6 - a", "UPDATE t SET b = 'z', a = a * 2 WHERE c = 1", "UPDATE t SET c = a WHERE a < "+n, "DELETE FROM t WHERE a = "+n, "UPDATE t SET b = 'x' || b")
			before := has(t, p)
			_, changes, e := Do(p, stmt(t, s))
			if e != api.OK && (changes != nil || has(t, p) != before) {
				t.Fatal(s, e)
			}
			for _, c := range changes {
				if is, ok := model[c.Key[0].N]; len(c.Old) > 0 && (!ok || is != one(c.Old)) || len(c.Old) == 0 && ok && !slices.ContainsFunc(changes, func(d api.Change) bool { return d.Key[0] == c.Key[0] && len(d.Old) > 0 }) {
					t.Fatal(s, told(changes), is)
				}
			}
			for _, c := range changes { // first what is gone: of one key the New of the one with a New
				if len(c.New) == 0 {
					delete(model, c.Key[0].N)
				} else {
					model[c.Key[0].N] = one(c.New)
				}
			}
			var l []string
			var keys []int64
			for k := range model {
				keys = append(keys, k)
			}
			slices.Sort(keys)
			for _, k := range keys {
				l = append(l, model[k])
			}
			if has(t, p) != strings.Join(l, "; ") {
				t.Fatal(s, has(t, p), l)
			}
			if _, e := store.Check(p); e != api.OK {
				t.Fatal(s, e)
			}
		}
	}
}

func TestResolvedBeforehand(t *testing.T) { // what is handed in is a statement whose names are not found yet
	p := some(t)
	c, _ := store.Tables(p)
	s, _ := schema.Resolve(c, stmt(t, "UPDATE t SET b = b WHERE b = 'x'"))
	if _, _, e := Do(p, s); e != api.ErrArg {
		t.Error(e)
	}
	if v, e := eval.Eval(s.Sets[0].E, []api.Value{{}, {Kind: api.KText, S: "q"}}); v.S != "q" || e != api.OK {
		t.Error(v, e)
	}
}
