package schema

import (
	"math/rand"
	"reflect"
	"slices"
	"strconv"
	"strings"
	"testing"

	"counterfoil/api"
	"counterfoil/eval"
	"counterfoil/parse"
)

// stmt: the statement that a text is.
func stmt(t testing.TB, text string) api.Stmt {
	t.Helper()
	l, spot := parse.Script(text)
	if len(l) != 1 || spot.Err != api.OK {
		t.Fatal(text, spot)
	}
	return l[0]
}

// defined: the catalog that these statements make.
func defined(t testing.TB, texts ...string) []api.Table {
	t.Helper()
	var c []api.Table
	for _, text := range texts {
		d, e := Define(c, stmt(t, text))
		if e != api.OK {
			t.Fatal(text, e)
		}
		c = d
	}
	return c
}

// some: t (a INTEGER, b TEXT, key a) with the index i on b, and u (c BLOB, a INTEGER, key a c).
func some(t testing.TB) []api.Table {
	return defined(t, "CREATE TABLE u (c BLOB, a INTEGER, PRIMARY KEY (a, c))", "CREATE TABLE t (a INTEGER, b TEXT, PRIMARY KEY (a))", "CREATE INDEX i ON t (b)")
}

func TestCheck(t *testing.T) { // P16.1
	if Check(nil) != api.OK || Check(some(t)) != api.OK {
		t.Error("may be")
	}
	for i, change := range []func(c []api.Table) []api.Table{
		func(c []api.Table) []api.Table { return []api.Table{c[1], c[0]} },
		func(c []api.Table) []api.Table { return []api.Table{c[0], c[0]} },
		func(c []api.Table) []api.Table { return []api.Table{c[1], c[1]} },
		func(c []api.Table) []api.Table { c[0].Name = "T"; return c },
		func(c []api.Table) []api.Table { c[0].Name = ""; return c },
		func(c []api.Table) []api.Table { c[0].Columns = nil; return c },
		func(c []api.Table) []api.Table { c[0].Columns = slices.Repeat(c[0].Columns, 2); return c },
		func(c []api.Table) []api.Table {
			for i := range 15 {
				c[0].Columns = append(c[0].Columns, api.Column{Name: "x" + strconv.Itoa(i), Type: api.KInt})
			}
			return c
		},
		func(c []api.Table) []api.Table { c[0].Columns[1].Name = "a b"; return c },
		func(c []api.Table) []api.Table { c[0].Columns[1].Type = api.KNull; return c },
		func(c []api.Table) []api.Table { c[0].Columns[1].Type = 4; return c },
		func(c []api.Table) []api.Table { c[0].Columns[0].NotNull = false; return c },
		func(c []api.Table) []api.Table { c[0].Key = nil; return c },
		func(c []api.Table) []api.Table { c[0].Key = []int{0, 0}; return c },
		func(c []api.Table) []api.Table { c[0].Key = []int{2}; return c },
		func(c []api.Table) []api.Table { c[0].Key = []int{-1}; return c },
		func(c []api.Table) []api.Table { c[0].Indexes[0].Name = "I"; return c },
		func(c []api.Table) []api.Table { c[0].Indexes[0].Columns = nil; return c },
		func(c []api.Table) []api.Table { c[0].Indexes[0].Columns = []int{1, 1}; return c },
		func(c []api.Table) []api.Table { c[0].Indexes[0].Columns = []int{2}; return c },
		func(c []api.Table) []api.Table { c[0].Indexes = slices.Repeat(c[0].Indexes, 2); return c },
		func(c []api.Table) []api.Table { c[1].Indexes = c[0].Indexes; return c },
		func(c []api.Table) []api.Table {
			c[0].Indexes = nil
			for _, s := range []string{"a", "b", "c", "d", "e"} {
				c[0].Indexes = append(c[0].Indexes, api.Index{Name: s, Columns: []int{0}})
			}
			return c
		},
		func(c []api.Table) []api.Table {
			for _, s := range []string{"va", "vb", "vc", "vd", "ve", "vf", "vg"} {
				c = append(c, api.Table{Name: s, Columns: c[1].Columns, Key: c[1].Key})
			}
			return c
		},
	} {
		c := change(some(t))
		if Check(c) != api.ErrArg {
			t.Error(i)
		}
		if d, e := Define(c, stmt(t, "DROP TABLE t")); d != nil || e != api.ErrArg {
			t.Error(i, e)
		}
		if _, e := Resolve(c, stmt(t, "DELETE FROM t")); e != api.ErrArg {
			t.Error(i, e)
		}
	}
}

func TestFindSame(t *testing.T) { // P16.1
	c := some(t)
	for name, want := range map[string]int{"t": 0, "u": 1} {
		if i, ok := Find(c, name); i != want || !ok {
			t.Error(name, i, ok)
		}
	}
	if i, ok := Find(c, "v"); i != 0 || ok {
		t.Error(i, ok)
	}
	if i, ok := Find([]api.Table{{Name: "x"}, {Name: "y"}, {Name: "y"}}, "y"); i != 1 || !ok {
		t.Error(i, ok)
	}
	if !Same(c, some(t)) || !Same(nil, []api.Table{}) || Same(c, c[:1]) {
		t.Error("same")
	}
	for i, change := range []func(c []api.Table){
		func(c []api.Table) { c[0].Name = "x" }, func(c []api.Table) { c[0].Columns[0].Name = "x" }, func(c []api.Table) { c[0].Key = []int{1} },
		func(c []api.Table) { c[0].Indexes[0].Name = "x" }, func(c []api.Table) { c[0].Indexes[0].Unique = true }, func(c []api.Table) { c[0].Indexes[0].Columns = []int{0} }, func(c []api.Table) { c[0].Indexes = nil },
	} {
		d := some(t)
		if change(d); Same(c, d) {
			t.Error(i)
		}
	}
}

func TestDefine(t *testing.T) { // P16.2
	c := some(t)
	if len(c) != 2 || !reflect.DeepEqual(c[0], api.Table{Name: "t", Columns: []api.Column{{Name: "a", Type: api.KInt, NotNull: true}, {Name: "b", Type: api.KText}}, Key: []int{0}, Indexes: []api.Index{{Name: "i", Columns: []int{1}}}}) ||
		!reflect.DeepEqual(c[1], api.Table{Name: "u", Columns: []api.Column{{Name: "c", Type: api.KBlob, NotNull: true}, {Name: "a", Type: api.KInt, NotNull: true}}, Key: []int{1, 0}}) {
		t.Error(c)
	}
	var wide []string
	for i := range 17 {
		wide = append(wide, "c"+strconv.Itoa(i))
	}
	many := strings.Join(wide, " TEXT, ")
	keys := strings.Join(wide, ", ")
	for _, k := range []struct {
		s string
		e api.Errno
	}{
		{"CREATE TABLE t (x TEXT, x TEXT, PRIMARY KEY (y))", api.ErrExists}, {"DROP TABLE v", api.ErrTable}, {"DROP INDEX j", api.ErrIndex}, {"DROP INDEX t", api.ErrIndex},
		{"CREATE TABLE i (a TEXT, PRIMARY KEY (a))", api.OK}, {"CREATE INDEX u ON t (a, b)", api.OK},
		{"CREATE TABLE v (" + many + " TEXT, PRIMARY KEY (c0))", api.ErrMany}, {"CREATE TABLE v (a TEXT, PRIMARY KEY (" + keys + "))", api.ErrMany}, {"CREATE TABLE v (" + many[:strings.LastIndex(many, ",")] + ", PRIMARY KEY (c0))", api.OK},
		{"CREATE TABLE v (a TEXT, a TEXT, PRIMARY KEY (a))", api.ErrColumn}, {"CREATE TABLE v (a TEXT, PRIMARY KEY (b))", api.ErrColumn}, {"CREATE TABLE v (a TEXT, PRIMARY KEY (a, a))", api.ErrColumn},
		{"CREATE INDEX i ON v (x)", api.ErrExists}, {"CREATE INDEX j ON v (x)", api.ErrTable}, {"CREATE INDEX j ON t (x)", api.ErrColumn}, {"CREATE INDEX j ON t (a, a)", api.ErrColumn}, {"CREATE INDEX j ON t (" + keys + ")", api.ErrMany},
		{"BEGIN", api.ErrArg}, {"SELECT * FROM t", api.ErrArg}, {"DELETE FROM t", api.ErrArg},
	} {
		before := some(t)
		d, e := Define(c, stmt(t, k.s))
		if e != k.e || (d == nil) != (e != api.OK) || Check(d) != api.OK || !Same(c, before) {
			t.Error(k.s, e)
		}
	}
	for _, s := range []api.Stmt{{Kind: api.StDrop, Table: "T"}, {Kind: api.StDrop, Table: "t", Name: "x"}, {}} {
		if d, e := Define(c, s); d != nil || e != api.ErrArg {
			t.Error(s, e)
		}
	}
}

func TestDefineMany(t *testing.T) { // P16.2
	c := some(t)
	for i := range 6 {
		c, _ = Define(c, stmt(t, "CREATE TABLE v"+strconv.Itoa(i)+" (a TEXT, PRIMARY KEY (a))"))
	}
	if _, e := Define(c, stmt(t, "CREATE TABLE w (a TEXT, PRIMARY KEY (b))")); e != api.ErrMany || len(c) != 8 {
		t.Error(e, len(c))
	}
	if _, e := Define(c, stmt(t, "CREATE TABLE t (a TEXT, PRIMARY KEY (b))")); e != api.ErrExists {
		t.Error(e)
	}
	for _, s := range []string{"z", "b", "k"} {
		c, _ = Define(c, stmt(t, "CREATE INDEX "+s+" ON t (a)"))
	}
	if _, e := Define(c, stmt(t, "CREATE INDEX y ON t (x)")); e != api.ErrMany {
		t.Error(e)
	}
	if len(c[0].Indexes) != 4 || c[0].Indexes[0].Name != "b" || c[0].Indexes[3].Name != "z" {
		t.Error(c[0].Indexes)
	}
}

func TestSixteen(t *testing.T) { // as many columns as may be
	var names []string
	for i := range 16 {
		names = append(names, "c"+strconv.Itoa(i))
	}
	keys := strings.Join(names, ", ")
	c := defined(t, "CREATE TABLE t ("+strings.Join(names, " TEXT, ")+" TEXT, PRIMARY KEY ("+keys+"))", "CREATE INDEX i ON t ("+keys+")")
	if Check(c) != api.OK || len(c[0].Key) != 16 || len(c[0].Indexes[0].Columns) != 16 {
		t.Error(c)
	}
	if s, e := Resolve(c, stmt(t, "SELECT * FROM t")); len(s.Items) != 16 || e != api.OK {
		t.Error(e)
	}
}

func TestThereAndBack(t *testing.T) { // P16.4
	c := some(t)
	for _, k := range [][2]string{
		{"CREATE TABLE a (x TEXT, PRIMARY KEY (x))", "DROP TABLE a"}, {"CREATE TABLE z (x TEXT, PRIMARY KEY (x))", "DROP TABLE z"},
		{"CREATE UNIQUE INDEX h ON t (b, a)", "DROP INDEX h"}, {"CREATE INDEX j ON u (c)", "DROP INDEX j"},
	} {
		d, e := Define(c, stmt(t, k[0]))
		b, f := Define(d, stmt(t, k[1]))
		if e != api.OK || f != api.OK || Check(d) != api.OK || !Same(b, c) {
			t.Error(k, e, f)
		}
	}
	d, _ := Define(c, stmt(t, "DROP TABLE t"))
	if len(d) != 1 || d[0].Name != "u" {
		t.Error("with its indexes:", d)
	}
	if d, e := Define(d, stmt(t, "CREATE INDEX i ON u (a)")); e != api.OK || Check(d) != api.OK {
		t.Error(e)
	}
}

func TestResolvePlaces(t *testing.T) { // P16.3
	c := some(t)
	s, e := Resolve(c, stmt(t, "SELECT b, u.a, t.a + u.a FROM t JOIN u ON c = x'00' WHERE u.a = t.a AND b = 'x' ORDER BY c, b"))
	places := []int{s.Items[0].E.N, s.Items[1].E.N, s.Items[2].E.Kids[0].N, s.Items[2].E.Kids[1].N, s.From[1].On[0].Kids[0].N, s.Where[0].Kids[0].Kids[0].N, s.Where[0].Kids[0].Kids[1].N, s.Where[0].Kids[1].Kids[0].N, s.Order[0].E.N, s.Order[1].E.N}
	if e != api.OK || !slices.Equal(places, []int{1, 3, 0, 3, 2, 3, 0, 1, 2, 1}) {
		t.Error(places, e)
	}
	s, e = Resolve(c, stmt(t, "SELECT b FROM t AS x WHERE x.a = 1"))
	if e != api.OK || s.Items[0].E.N != 1 || s.Where[0].Kids[0].N != 0 {
		t.Error(s, e)
	}
	s, e = Resolve(c, stmt(t, "SELECT * FROM u AS v JOIN t ON 1 LIMIT 3"))
	var names []string
	for i, x := range s.Items {
		if x.E.N != i || x.As != "" || x.E.Op != api.ExColumn {
			t.Error(x)
		}
		names = append(names, x.E.Table+"."+x.E.Name)
	}
	if e != api.OK || s.Limit != 3 || !slices.Equal(names, []string{"v.c", "v.a", "t.a", "t.b"}) {
		t.Error(names, e)
	}
	s, e = Resolve(c, stmt(t, "UPDATE t SET b = b || 'x', a = t.a + 1 WHERE b IS NULL"))
	if e != api.OK || s.Sets[0].E.Kids[0].N != 1 || s.Sets[1].E.Kids[0].N != 0 || s.Where[0].Kids[0].N != 1 {
		t.Error(s, e)
	}
	s, e = Resolve(c, stmt(t, "SELECT a, COUNT(b) FROM u JOIN t AS t ON 1 GROUP BY u.a, b HAVING b = 'x' ORDER BY b, MAX(c)"))
	if e != api.ErrColumn {
		t.Error("a is of both:", e)
	}
	s, e = Resolve(c, stmt(t, "SELECT u.a, COUNT(b) FROM u JOIN t AS t ON 1 GROUP BY u.a, b HAVING b = 'x' ORDER BY b, MAX(c)"))
	if e != api.OK || s.Group[0].N != 1 || s.Group[1].N != 3 || s.Having[0].Kids[0].N != 3 || s.Order[1].E.Kids[0].N != 0 {
		t.Error(s, e)
	}
	asked := stmt(t, "SELECT b FROM t JOIN u ON c = c WHERE b = b")
	again := stmt(t, "SELECT b FROM t JOIN u ON c = c WHERE b = b")
	if Resolve(c, asked); !parse.Same(asked, again) {
		t.Error("what is handed in is not changed")
	}
}

func TestResolveErrors(t *testing.T) { // P16.3
	c := some(t)
	for _, k := range []struct {
		s string
		e api.Errno
	}{
		{"INSERT INTO v (x) VALUES (1, 2)", api.ErrTable}, {"INSERT INTO t (x, a) VALUES (1)", api.ErrColumn}, {"INSERT INTO t (a, a) VALUES (1)", api.ErrColumn}, {"INSERT INTO t (a, b) VALUES (1)", api.ErrCount}, {"INSERT INTO t (a) VALUES (1), (2, 3)", api.ErrCount},
		{"INSERT INTO t (a) VALUES ('x'), (2, 3)", api.ErrType}, {"INSERT INTO t (a) VALUES (a)", api.ErrColumn}, {"INSERT INTO t (a) VALUES (-'x' + a)", api.ErrColumn}, {"INSERT INTO t (a) VALUES (COUNT(*))", api.ErrGroup}, {"INSERT INTO t (b) VALUES (1)", api.ErrType}, {"INSERT INTO t (a) VALUES (-'x')", api.ErrType},
		{"INSERT INTO t (b, a) VALUES (NULL, NULL), ('x' || 'y', 1 + 2)", api.OK}, {"INSERT INTO u (c) VALUES ('x')", api.ErrType}, {"INSERT INTO u (c) VALUES (x'00')", api.OK},
		{"UPDATE v SET x = y", api.ErrTable}, {"UPDATE t SET x = 1, a = 'x'", api.ErrColumn}, {"UPDATE t SET a = 'x', x = 1", api.ErrType}, {"UPDATE t SET a = 1, a = 2", api.ErrColumn}, {"UPDATE t SET a = u.a", api.ErrColumn}, {"UPDATE t SET a = t.a", api.OK}, {"UPDATE t SET a = c", api.ErrColumn}, {"UPDATE t SET b = a", api.ErrType}, {"UPDATE t SET a = SUM(a)", api.ErrGroup}, {"UPDATE t SET b = NULL", api.OK},
		{"UPDATE t SET a = 'x' WHERE x", api.ErrType}, {"UPDATE t SET a = 1 WHERE x", api.ErrColumn}, {"UPDATE t SET a = 1 WHERE b", api.ErrType}, {"UPDATE t SET a = 1 WHERE COUNT(*)", api.ErrGroup},
		{"DELETE FROM v WHERE x", api.ErrTable}, {"DELETE FROM t WHERE b", api.ErrType}, {"DELETE FROM t WHERE NULL", api.OK}, {"DELETE FROM t WHERE c = x'00'", api.ErrColumn}, {"DELETE FROM t WHERE a = 'x'", api.ErrType},
		{"SELECT a FROM t AS x JOIN t AS y ON 1 JOIN t AS z ON 1 JOIN t AS w ON 1", api.ErrColumn}, {"SELECT a FROM t AS x JOIN t AS y ON 1 JOIN t AS z ON 1 JOIN t AS w ON 1 JOIN v ON 1", api.ErrMany}, {"SELECT 1, 1, 1, 1, 1, 1, 1, 1, 1, 1, 1, 1, 1, 1, 1, 1, 1 FROM v", api.ErrMany}, {"SELECT 1, 1, 1, 1, 1, 1, 1, 1, 1, 1, 1, 1, 1, 1, 1, 1 FROM v", api.ErrTable},
		{"SELECT a FROM t JOIN t AS u ON 1", api.ErrColumn}, {"SELECT a FROM t JOIN t ON 1", api.ErrExists}, {"SELECT a FROM t AS x JOIN u AS x ON y", api.ErrExists}, {"SELECT 1 FROM t AS u JOIN u ON 1", api.ErrExists}, {"SELECT 1 FROM t AS u JOIN u AS t ON 1", api.OK}, {"SELECT x FROM t JOIN v ON x", api.ErrTable}, {"SELECT t.a FROM t AS x", api.ErrColumn},
		{"SELECT 1 FROM t JOIN u ON c JOIN v ON 1", api.ErrType}, {"SELECT 1 FROM t JOIN u ON y.a = 1 JOIN t AS y ON 1", api.ErrColumn}, {"SELECT 1 FROM t JOIN u ON COUNT(*) > 1", api.ErrGroup}, {"SELECT 1 FROM t JOIN u ON u.a = t.a JOIN t AS y ON y.a = u.a", api.OK},
		{"SELECT x FROM t WHERE y GROUP BY 1", api.ErrColumn}, {"SELECT x FROM t WHERE b GROUP BY 1", api.ErrType}, {"SELECT x FROM t GROUP BY y, 1", api.ErrColumn}, {"SELECT x FROM t GROUP BY 1, y", api.ErrGroup}, {"SELECT x FROM t GROUP BY a + 1", api.ErrGroup},
		{"SELECT * FROM t GROUP BY a", api.ErrGroup}, {"SELECT * FROM t ORDER BY COUNT(*)", api.ErrGroup}, {"SELECT * FROM t HAVING COUNT(*)", api.ErrGroup}, {"SELECT x FROM t HAVING 1", api.ErrGroup},
		{"SELECT b, COUNT(*) FROM t", api.ErrGroup}, {"SELECT b FROM t GROUP BY b HAVING COUNT(*) > 1", api.OK}, {"SELECT COUNT(*) + a FROM t GROUP BY a", api.OK}, {"SELECT COUNT(*) + a FROM t GROUP BY b", api.ErrGroup}, {"SELECT SUM(a) FROM t GROUP BY b ORDER BY a", api.ErrGroup}, {"SELECT SUM(a) FROM t GROUP BY b HAVING a", api.ErrGroup}, {"SELECT SUM(a) FROM t GROUP BY b HAVING b", api.ErrType}, {"SELECT SUM(a) FROM t GROUP BY b HAVING b = 'x' AND SUM(a) > 1", api.OK}, {"SELECT 1 FROM t HAVING COUNT(*)", api.OK}, {"SELECT 1 FROM t ORDER BY MAX(a)", api.OK}, {"SELECT a FROM t ORDER BY MAX(a)", api.ErrGroup},
		{"SELECT SUM(b) FROM t", api.ErrType}, {"SELECT SUM(COUNT(*)) FROM t", api.ErrGroup}, {"SELECT x, -b FROM t", api.ErrColumn}, {"SELECT -b, x FROM t", api.ErrType}, {"SELECT -b + x FROM t", api.ErrColumn}, {"SELECT a FROM t ORDER BY x", api.ErrColumn}, {"SELECT a FROM t ORDER BY -b", api.ErrType}, {"SELECT a FROM t WHERE b = 'x' ORDER BY b DESC", api.OK},
		{"SELECT x, COUNT(*) FROM t HAVING y ORDER BY z", api.ErrColumn}, {"SELECT COUNT(*) FROM t HAVING -b ORDER BY z", api.ErrType}, {"SELECT COUNT(*) FROM t HAVING b ORDER BY z", api.ErrType}, {"SELECT COUNT(*) FROM t HAVING a ORDER BY z", api.ErrGroup}, {"SELECT -b, COUNT(*) FROM t HAVING a", api.ErrType}, {"SELECT b, COUNT(*) FROM t HAVING x", api.ErrGroup},
		{"CREATE TABLE v (a TEXT, PRIMARY KEY (a))", api.ErrArg}, {"BEGIN", api.ErrArg},
	} {
		s, e := Resolve(c, stmt(t, k.s))
		if e != k.e || e != api.OK && !reflect.DeepEqual(s, api.Stmt{}) {
			t.Error(k.s, e)
		}
	}
	s := stmt(t, "SELECT a FROM t")
	s.Items[0].E.N = 1
	if _, e := Resolve(c, s); e != api.ErrArg {
		t.Error(e)
	}
	wide := defined(t, "CREATE TABLE t (a TEXT, b TEXT, c TEXT, d TEXT, e TEXT, f TEXT, g TEXT, h TEXT, i TEXT, PRIMARY KEY (a))")
	if _, e := Resolve(wide, stmt(t, "SELECT * FROM t JOIN t AS u ON 1")); e != api.ErrMany {
		t.Error(e)
	}
	if _, e := Resolve(wide, stmt(t, "SELECT * FROM t JOIN t AS u ON 1 GROUP BY u.a")); e != api.ErrGroup {
		t.Error(e)
	}
	if _, e := Resolve(wide, stmt(t, "SELECT * FROM t JOIN t AS u ON 1 ORDER BY x")); e != api.ErrMany {
		t.Error(e)
	}
}

// exprs: all expressions of a statement.
func exprs(s api.Stmt) []api.Expr {
	l := slices.Concat(slices.Concat(s.Rows...), s.Where, s.Group, s.Having)
	for _, x := range s.Sets {
		l = append(l, x.E)
	}
	for _, x := range s.Items {
		l = append(l, x.E)
	}
	for _, x := range s.Order {
		l = append(l, x.E)
	}
	for _, x := range s.From {
		l = append(l, x.On...)
	}
	return l
}

func TestKinds(t *testing.T) { // P16.5
	c := some(t)
	r := rand.New(rand.NewSource(20))
	var expr func(depth int) string
	expr = func(depth int) string {
		if depth == 0 {
			return []string{"a", "b", "t.a", "x.b", "x.a", "1", "'s'", "NULL"}[r.Intn(8)]
		}
		return []string{"(", "-(", "NOT (", "SUM(", "COUNT("}[min(r.Intn(9), 4)%5] + expr(depth-1) + ") " + []string{"+", "=", "||", "AND", "<"}[r.Intn(5)] + " (" + expr(depth-1) + ")"
	}
	well := 0
	for range 20000 {
		var text string
		kinds := []uint8{api.KInt, api.KText}
		switch d := r.Intn(2); r.Intn(4) {
		case 0:
			text = "UPDATE t SET a = " + expr(d) + ", b = " + expr(d) + " WHERE " + expr(d)
		case 1:
			text = "DELETE FROM t WHERE " + expr(d)
		case 2:
			text = "SELECT " + expr(d) + " FROM t JOIN t AS x ON " + expr(d) + " WHERE " + expr(d) + " ORDER BY " + expr(d)
			kinds = slices.Repeat(kinds, 2)
		default:
			text = "SELECT " + expr(d) + ", t.a FROM t JOIN t AS x ON 1 GROUP BY t.a, x.b HAVING " + expr(d)
			kinds = slices.Repeat(kinds, 2)
		}
		s, e := Resolve(c, stmt(t, text))
		if e != api.OK {
			continue
		}
		well++
		for _, x := range exprs(s) {
			if _, e := eval.Type(x, kinds, s.Kind == api.StSelect); e != api.OK {
				t.Fatal(text, e)
			}
		}
	}
	if well < 500 {
		t.Error("too few:", well)
	}
}
