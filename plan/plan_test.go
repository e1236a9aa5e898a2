package plan

import (
	"math/rand"
	"slices"
	"strings"
	"testing"

	"counterfoil/api"
	"counterfoil/eval"
	"counterfoil/parse"
	"counterfoil/schema"
)

func stmt(t testing.TB, text string) api.Stmt {
	t.Helper()
	l, spot := parse.Script(text)
	if len(l) != 1 || spot.Err != api.OK {
		t.Fatal(text, spot)
	}
	return l[0]
}

// catalog: what these statements create.
func catalog(t testing.TB, texts ...string) (c []api.Table) {
	t.Helper()
	for _, s := range texts {
		var e api.Errno
		if c, e = schema.Define(c, stmt(t, s)); e != api.OK {
			t.Fatal(s, e)
		}
	}
	return c
}

// some: t (a, b, c, key a b), an index i on c.
func some(t testing.TB) []api.Table {
	return catalog(t, "CREATE TABLE t (a INTEGER, b INTEGER, c INTEGER, PRIMARY KEY (a, b))", "CREATE INDEX i ON t (c)")
}

// resolved: the statement that a text is, with its places.
func resolved(t testing.TB, c []api.Table, text string) api.Stmt {
	t.Helper()
	s, e := schema.Resolve(c, stmt(t, text))
	if e != api.OK {
		t.Fatal(text, e)
	}
	return s
}

// told: expressions as they are written, but for their places.
func told(list []api.Expr) string {
	var l []string
	for _, x := range list {
		var clean func(x api.Expr) api.Expr
		clean = func(x api.Expr) api.Expr {
			x.N = 0
			x.Kids = slices.Clone(x.Kids)
			for i := range x.Kids {
				x.Kids[i] = clean(x.Kids[i])
			}
			return x
		}
		s, e := parse.PrintExpr(clean(x))
		if e != api.OK {
			s = "?"
		}
		l = append(l, s)
	}
	return strings.Join(l, ", ")
}

// steps: a plan, as index: part / simple.
func steps(t testing.TB, c []api.Table, text string) string {
	t.Helper()
	l, e := Plan(c, resolved(t, c, text))
	if e != api.OK {
		t.Fatal(text, e)
	}
	var r []string
	for _, s := range l {
		r = append(r, s.Index+": "+told(s.Part)+" / "+told(s.Simple))
	}
	return strings.Join(r, "; ")
}

func TestParts(t *testing.T) { // P18.1
	expr := func(s string) api.Expr {
		x, spot := parse.Expr(s)
		if spot.Err != api.OK {
			t.Fatal(s, spot)
		}
		return x
	}
	l := []api.Expr{expr("a AND (b AND c = 1) AND (a OR b AND c)"), expr("NOT (a AND b)"), expr("1 = a"), expr("a = b AND NULL = 'x' AND a + 1 = b AND a < b AND (a = 1) = b")}
	if s := told(Parts(l)); s != "a, b, c = 1, a OR ( b AND c ), NOT ( a AND b ), 1 = a, a = b, NULL = 'x', ( a + 1 ) = b, a < b, ( a = 1 ) = b" {
		t.Error(s)
	}
	if s := told(Simple(l)); s != "c = 1, 1 = a, a = b, NULL = 'x'" {
		t.Error(s)
	}
	if Parts(nil) != nil || len(Simple(nil)) != 0 {
		t.Error("none")
	}
	for s, w := range map[string]string{
		"SELECT a FROM t JOIN u ON a JOIN v ON b = 1 WHERE c AND d": "a, b = 1, c AND d", "SELECT a FROM t GROUP BY b HAVING c": "", "UPDATE t SET a = b WHERE c": "c", "DELETE FROM t WHERE c": "c", "DELETE FROM t": "", "INSERT INTO t (a) VALUES (b)": "", "BEGIN": "",
	} {
		if got := told(Conditions(stmt(t, s))); got != w {
			t.Error(s, got)
		}
	}
	odd := []api.Expr{{Op: api.ExAnd, Kids: l[:1]}, {Op: api.ExEq}, {Op: api.ExEq, Kids: l}}
	if len(Parts(odd)) != 3 || len(Simple(odd)) != 0 {
		t.Error("what may not be")
	}
	if len(Conditions(api.Stmt{Kind: api.StBegin, Where: l})) != 0 {
		t.Error("other kinds")
	}
}

func TestPlan(t *testing.T) { // P18.2, and the examples
	c := some(t)
	for _, k := range [][2]string{
		{"DELETE FROM t WHERE b = 1", ":  / b = 1"},
		{"DELETE FROM t WHERE b = 1 AND 2 = a", ": 2, 1 / b = 1, 2 = a"},
		{"DELETE FROM t WHERE c = 3 AND b = 1", "i: 3 / c = 3, b = 1"},
		{"DELETE FROM t WHERE c = 3 AND b = 1 AND a = 4", ": 4, 1 / c = 3, b = 1, a = 4"},
		{"SELECT * FROM t JOIN t AS u ON u.c = t.a AND u.a > 1", ":  / ; i: t . a / u . c = t . a"},
		{"DELETE FROM t", ":  / "}, {"UPDATE t SET a = 1 WHERE a = 2", ": 2 / a = 2"},
		{"DELETE FROM t WHERE a = 1 AND c = 2", ": 1 / a = 1, c = 2"},                            // the key first
		{"DELETE FROM t WHERE a = 1 AND a = 2 AND c = 3", ": 1 / a = 1, a = 2, c = 3"},           // the first one tells
		{"DELETE FROM t WHERE a = b", ":  / a = b"}, {"DELETE FROM t WHERE a = a", ":  / a = a"}, // of this source
		{"DELETE FROM t WHERE a = NULL AND 1 = 1 AND 'x' = NULL", ": NULL / a = NULL, 1 = 1, 'x' = NULL"},
		{"DELETE FROM t WHERE a = 1 OR a = 2", ":  / "}, {"DELETE FROM t WHERE NOT a = 1", ":  / "}, {"DELETE FROM t WHERE a = 1 + 1", ":  / "}, {"DELETE FROM t WHERE a = -1", ": - 1 / a = - 1"},
		{"SELECT * FROM t JOIN t AS u ON t.a = 1 WHERE u.a = t.b AND t.b = u.b", ": 1 / t . a = 1; : t . b, t . b / u . a = t . b, t . b = u . b"},
		{"SELECT * FROM t JOIN t AS u ON 1 WHERE t.a = u.a", ":  / ; : t . a / t . a = u . a"},
		{"SELECT t.a FROM t JOIN t AS u ON 1 = 1 JOIN t AS v ON v.c = u.c AND u.c = t.c AND v.a = t.a AND t.b = t.c", ":  / 1 = 1, t . b = t . c; i: t . c / u . c = t . c; : t . a / v . c = u . c, v . a = t . a"},
		{"SELECT t.a FROM t JOIN t AS u ON u.a = u.b AND u.b = 3", ":  / ; :  / u . a = u . b, u . b = 3"},
	} {
		if s := steps(t, c, k[0]); s != k[1] {
			t.Errorf("%s: %q", k[0], s)
		}
	}
	d := catalog(t, "CREATE TABLE t (a INTEGER, b INTEGER, c INTEGER, PRIMARY KEY (a))", "CREATE INDEX z ON t (b, c)", "CREATE INDEX y ON t (c, b)", "CREATE UNIQUE INDEX x ON t (b)")
	for _, k := range [][2]string{
		{"DELETE FROM t WHERE b = 1", "x: 1 / b = 1"}, {"DELETE FROM t WHERE b = 1 AND c = 2", "y: 2, 1 / b = 1, c = 2"}, {"DELETE FROM t WHERE c = 2", "y: 2 / c = 2"}, {"DELETE FROM t WHERE c = 2 AND a = 1", ": 1 / c = 2, a = 1"},
	} {
		if s := steps(t, d, k[0]); s != k[1] {
			t.Errorf("%s: %q", k[0], s)
		}
	}
}

func TestRefused(t *testing.T) { // P18.2
	c := some(t)
	where := func(n int) []api.Expr { return []api.Expr{{Op: api.ExNot, Kids: []api.Expr{{Op: api.ExColumn, N: n}}}} }
	for i, s := range []api.Stmt{
		{}, {Kind: api.StInsert, Table: "t"}, {Kind: api.StBegin}, {Kind: api.StDelete, Table: "u"}, {Kind: api.StUpdate}, {Kind: api.StSelect, From: []api.Source{{Table: "t"}, {Table: "u"}}},
		{Kind: api.StDelete, Table: "t", Where: where(3)}, {Kind: api.StDelete, Table: "t", Where: where(-1)}, {Kind: api.StSelect, From: []api.Source{{Table: "t"}, {Table: "t", On: where(6)}}}, {Kind: api.StSelect, Where: where(0)},
	} {
		if l, e := Plan(c, s); l != nil || e != api.ErrArg {
			t.Error(i, l, e)
		}
	}
	if l, e := Plan(c, api.Stmt{Kind: api.StSelect, From: []api.Source{{Table: "t"}, {Table: "t", On: where(5)}}}); len(l) != 2 || e != api.OK {
		t.Error(l, e)
	}
	if l, e := Plan(c, api.Stmt{Kind: api.StSelect, Where: []api.Expr{{Op: api.ExEq, Kids: []api.Expr{{Op: api.ExValue}, {Op: api.ExValue}}}}}); len(l) != 0 || e != api.OK {
		t.Error(l, e)
	}
}

func TestNothingLost(t *testing.T) { // P18.3, P18.4
	r := rand.New(rand.NewSource(21))
	c := catalog(t, "CREATE TABLE t (a INTEGER, b INTEGER, c INTEGER, PRIMARY KEY (b, a))", "CREATE INDEX i ON t (c, a)", "CREATE INDEX j ON t (a)")
	names := []string{"x", "y", "z"}
	met := 0
	for range 3000 {
		side := func(k int) string {
			if r.Intn(3) == 0 {
				return []string{"0", "1", "NULL"}[r.Intn(3)]
			}
			return names[r.Intn(k)] + "." + "abc"[r.Intn(3):][:1]
		}
		some := func(k int) string {
			l := make([]string, 1+r.Intn(3))
			for i := range l {
				l[i] = side(k) + []string{" = ", " = ", " = ", " < "}[r.Intn(4)] + side(k)
			}
			return strings.Join(l, " AND ")
		}
		s := resolved(t, c, "SELECT 1 FROM t AS x JOIN t AS y ON "+some(2)+" JOIN t AS z ON "+some(3)+" WHERE "+some(3))
		l, e := Plan(c, s)
		if e != api.OK || len(l) != 3 {
			t.Fatal(e)
		}
		var all []api.Expr
		for i, step := range l {
			all = append(all, step.Simple...)
			for _, x := range slices.Concat(step.Simple, step.Part) {
				columns(x, func(n int) {
					if n >= 3*(i+1) {
						t.Fatal("not known yet")
					}
				})
			}
			for _, x := range step.Part {
				columns(x, func(n int) {
					if n >= 3*i {
						t.Fatal("not a source ahead")
					}
				})
			}
		}
		// The same parts, each once.
		want := strings.Split(told(Simple(Conditions(s))), ", ")
		got := strings.Split(told(all), ", ")
		slices.Sort(want)
		slices.Sort(got)
		if !slices.Equal(got, want) {
			t.Fatal(got, want)
		}
		for range 30 {
			row := make([]api.Value, 9)
			for i := range row {
				if r.Intn(4) > 0 {
					row[i] = api.Value{Kind: api.KInt, N: int64(r.Intn(2))}
				}
			}
			holds := true
			for _, x := range all {
				v, _ := eval.Eval(x, row)
				holds = holds && eval.True(v)
			}
			if !holds {
				continue
			}
			met++
			for i, step := range l {
				places := map[string][]int{"": c[0].Key, "i": {2, 0}, "j": {0}}[step.Index]
				for k, x := range step.Part {
					if v, e := eval.Eval(x, row); e != api.OK || v != row[3*i+places[k]] {
						t.Fatal("lost:", told([]api.Expr{x}))
					}
				}
			}
		}
	}
	if met < 100 {
		t.Error("too few:", met)
	}
}
