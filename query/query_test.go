package query

import (
	"math/rand"
	"slices"
	"strings"
	"testing"

	"counterfoil/api"
	"counterfoil/eval"
	"counterfoil/files"
	"counterfoil/pager"
	"counterfoil/parse"
	"counterfoil/plan"
	"counterfoil/schema"
	"counterfoil/space"
	"counterfoil/store"
	"counterfoil/value"
)

func num(n int64) api.Value  { return api.Value{Kind: api.KInt, N: n} }
func txt(s string) api.Value { return api.Value{Kind: api.KText, S: s} }

func stmt(t testing.TB, s string) api.Stmt {
	t.Helper()
	l, spot := parse.Script(s)
	if len(l) != 1 || spot.Err != api.OK {
		t.Fatal(s, spot)
	}
	return l[0]
}

// begun: a pager of a new disk, in a transaction, with what these statements create.
func begun(t testing.TB, texts ...string) *pager.Pager {
	t.Helper()
	p, e := pager.Open(files.New())
	if e != api.OK || space.Begin(p) != api.OK {
		t.Fatal("Open, Begin")
	}
	for _, s := range texts {
		if e := store.Define(p, stmt(t, s)); e != api.OK {
			t.Fatal(s, e)
		}
	}
	return p
}

func insert(t testing.TB, p *pager.Pager, table string, row ...api.Value) {
	t.Helper()
	if e := store.Insert(p, table, row); e != api.OK {
		t.Fatal(table, row, e)
	}
}

// some: t (a INTEGER, b TEXT, key a): 1 x, 2 y, 3 x.
func some(t testing.TB, more ...string) *pager.Pager {
	p := begun(t, append([]string{"CREATE TABLE t (a INTEGER, b TEXT, PRIMARY KEY (a))"}, more...)...)
	for i, s := range []string{"x", "y", "x"} {
		insert(t, p, "t", num(int64(i+1)), txt(s))
	}
	return p
}

// shown: names, and rows by their literals.
func shown(names []string, rows [][]api.Value) string {
	s := strings.Join(names, ",")
	for i, r := range rows {
		s += []string{"; ", ": "}[max(0, 1-i)]
		for k, v := range r {
			if k > 0 {
				s += " "
			}
			s += value.Literal(v)
		}
	}
	return s
}

func TestSelect(t *testing.T) { // P19.2, and the examples
	p := some(t)
	for _, c := range [][2]string{
		{"SELECT a FROM t WHERE b = 'x' ORDER BY a DESC", "a: 3; 1"},
		{"SELECT b, COUNT(*) AS n FROM t GROUP BY b", "b,n: 'x' 2; 'y' 1"},
		{"SELECT COUNT(*), MAX(a) FROM t WHERE a > 9", ",: 0 NULL"},
		{"SELECT t.a, u.a FROM t JOIN t AS u ON t.b = u.b WHERE t.a < u.a LIMIT 1", "a,a: 1 3"},
		{"SELECT 9223372036854775807 + a FROM t WHERE b = 'y' AND a = 1", ""},
		{"SELECT * FROM t", "a,b: 1 'x'; 2 'y'; 3 'x'"}, {"SELECT * FROM t LIMIT 0", "a,b"}, {"SELECT * FROM t LIMIT 2", "a,b: 1 'x'; 2 'y'"}, {"SELECT * FROM t LIMIT 9", "a,b: 1 'x'; 2 'y'; 3 'x'"},
		{"SELECT a AS z, b, a + 1, t.a FROM t WHERE a = 2", "z,b,,a: 2 'y' 3 2"},
		{"SELECT * FROM t JOIN t AS u ON u.a = t.a + 1", "a,b,a,b: 1 'x' 2 'y'; 2 'y' 3 'x'"},
		{"SELECT t.a, u.a FROM t JOIN t AS u ON 1 WHERE t.a <> 2", "a,a: 1 1; 1 2; 1 3; 3 1; 3 2; 3 3"},
		{"SELECT a FROM t ORDER BY b, a DESC", "a: 3; 1; 2"}, {"SELECT a FROM t ORDER BY b DESC", "a: 2; 1; 3"}, {"SELECT a FROM t ORDER BY 1", "a: 1; 2; 3"}, {"SELECT a FROM t ORDER BY b DESC, a DESC LIMIT 2", "a: 2; 3"},
		{"SELECT b FROM t GROUP BY b HAVING COUNT(*) > 1", "b: 'x'"}, {"SELECT b FROM t GROUP BY b HAVING NULL", "b"}, {"SELECT SUM(a) FROM t HAVING COUNT(*) = 3", ": 6"}, {"SELECT SUM(a) FROM t HAVING COUNT(*) > 3", ""},
		{"SELECT MIN(b) || MAX(b), SUM(a) / COUNT(a) FROM t", ",: 'xy' 2"}, {"SELECT 1 FROM t WHERE a > 5 HAVING COUNT(*) = 0", ": 1"}, {"SELECT a FROM t WHERE a > 5 GROUP BY a", "a"},
		{"SELECT SUM(a) AS s FROM t GROUP BY b ORDER BY COUNT(*), s.a", "!"}, {"SELECT SUM(a) AS s, b FROM t GROUP BY b ORDER BY COUNT(*)", "s,b: 2 'y'; 4 'x'"}, {"SELECT b, a FROM t GROUP BY a, b ORDER BY b", "b,a: 'x' 1; 'x' 3; 'y' 2"}, {"SELECT b, a FROM t GROUP BY b, a", "b,a: 'x' 1; 'x' 3; 'y' 2"},
		{"SELECT a FROM t WHERE NULL", "a"}, {"SELECT a FROM t WHERE 2", "a: 1; 2; 3"}, {"SELECT a FROM t WHERE 1 = 2 AND 9223372036854775807 + a > 0", "a"}, {"SELECT a FROM t WHERE a > 5 AND 9223372036854775807 + a > 0", "!"},
		{"SELECT 1 FROM t ORDER BY COUNT(*)", ": 1"},
	} {
		names, rows, e := Select(p, stmt(t, c[0]))
		if c[1] == "!" {
			if e == api.OK || names != nil || rows != nil {
				t.Error(c[0], e)
			}
			continue
		}
		if got := shown(names, rows); got != c[1] || e != api.OK {
			t.Errorf("%s: %q %d", c[0], got, e)
		}
	}
}

func TestSelectErrors(t *testing.T) { // P19.2
	p := some(t)
	for _, c := range []struct {
		s string
		e api.Errno
	}{
		{"SELECT 9223372036854775807 + a FROM t WHERE a = 1", api.ErrOver}, {"SELECT x FROM t", api.ErrColumn}, {"SELECT * FROM u", api.ErrTable}, {"DELETE FROM t", api.ErrArg}, {"INSERT INTO u (a) VALUES (1)", api.ErrArg}, {"BEGIN", api.ErrArg},
		{"SELECT 9223372036854775807 + a FROM t LIMIT 0", api.ErrOver}, {"SELECT a FROM t ORDER BY -9223372036854775807 - a", api.ErrOver}, {"SELECT a FROM t WHERE 9223372036854775807 + a = 1 AND 1 = 2", api.OK}, {"SELECT a FROM t WHERE 9223372036854775807 + a > 1 AND 1 < 0", api.ErrOver},
		{"SELECT 9223372036854775807 + SUM(a) FROM t", api.ErrOver}, {"SELECT 1 FROM t GROUP BY b HAVING SUM(9223372036854775806 + a) > 1", api.ErrOver}, {"SELECT SUM(9223372036854775806 + a) FROM t GROUP BY b HAVING b = 'z'", api.OK},
		{"SELECT b FROM t GROUP BY b HAVING b || '" + strings.Repeat("x", 1000) + "' = 'x' AND SUM(9223372036854775807) > 1", api.ErrLong}, // Having: its kids from the left
		{"SELECT t.a FROM t JOIN t AS u ON 9223372036854775807 + u.a > 1 WHERE u.a = 7", api.OK}, {"SELECT t.a FROM t JOIN t AS u ON 9223372036854775807 + u.a > 1 WHERE u.a < 0", api.ErrOver}, {"SELECT t.a FROM t JOIN t AS u ON u.a < 0 WHERE 9223372036854775807 + u.a > 1", api.OK},
	} {
		names, rows, e := Select(p, stmt(t, c.s))
		if e != c.e || e != api.OK && (names != nil || rows != nil) {
			t.Error(c.s, e)
		}
	}
	if _, _, e := Select(nil, stmt(t, "DELETE FROM t")); e != api.ErrNil {
		t.Error(e)
	}
	space.SetRoot(p, 0, 3)
	if _, _, e := Select(p, stmt(t, "DELETE FROM t")); e != api.ErrBytes {
		t.Error(e)
	}
}

func TestFound(t *testing.T) { // P19.1
	p := some(t)
	c, _ := store.Tables(p)
	for _, k := range [][2]string{
		{"UPDATE t SET b = 'z' WHERE a > 1", ": 2 'y'; 3 'x'"}, {"DELETE FROM t WHERE b = 'x'", ": 1 'x'; 3 'x'"}, {"DELETE FROM t", ": 1 'x'; 2 'y'; 3 'x'"}, {"SELECT t.a FROM t JOIN t AS u ON u.a = t.a WHERE t.a < 3 ORDER BY t.a DESC LIMIT 1", ": 1 'x' 1 'x'; 2 'y' 2 'y'"}, {"SELECT COUNT(*) FROM t WHERE a = 7", ""},
	} {
		s, e := schema.Resolve(c, stmt(t, k[0]))
		if e != api.OK {
			t.Fatal(k[0], e)
		}
		if rows, e := Found(p, s); shown(nil, rows) != k[1] || e != api.OK {
			t.Error(k[0], shown(nil, rows), e)
		}
	}
	for _, s := range []api.Stmt{{}, stmt(t, "INSERT INTO t (a) VALUES (1)"), stmt(t, "BEGIN"), stmt(t, "DELETE FROM u"), {Kind: api.StDelete, Table: "t", Where: []api.Expr{{Op: api.ExColumn, N: 2}}}} {
		if rows, e := Found(p, s); rows != nil || e != api.ErrArg {
			t.Error(s, e)
		}
	}
	s, _ := schema.Resolve(c, stmt(t, "DELETE FROM t WHERE a + 9223372036854775806 > 0"))
	if rows, e := Found(p, s); rows != nil || e != api.ErrOver {
		t.Error(rows, e)
	}
	if _, e := Found(nil, s); e != api.ErrNil {
		t.Error(e)
	}
	eq := func(v api.Value) api.Stmt {
		return api.Stmt{Kind: api.StDelete, Table: "t", Where: []api.Expr{{Op: api.ExEq, Kids: []api.Expr{{Op: api.ExColumn}, {Op: api.ExValue, V: v}}}}}
	}
	for _, v := range []api.Value{txt("x"), {}, {Kind: 9}, txt(strings.Repeat("k", 1001))} { // simple parts that never come to true
		if rows, e := Found(p, eq(v)); rows != nil || e != api.OK {
			t.Error(v, rows, e)
		}
	}
}

// slow: what a SELECT tells, on plain lists of rows.
func slow(s api.Stmt, tables map[string][][]api.Value, columns int) (rows [][]api.Value, e api.Errno) {
	all := [][]api.Value{nil}
	for _, x := range s.From {
		var next [][]api.Value
		for _, a := range all {
			for _, r := range tables[x.Table] {
				next = append(next, slices.Concat(a, r))
			}
		}
		all = next
	}
	conditions := plan.Conditions(s)
	var found [][]api.Value
	for _, row := range all {
		ok := true
		for _, x := range plan.Simple(conditions) {
			v, _ := eval.Eval(x, row)
			ok = ok && eval.True(v)
		}
		for _, x := range conditions {
			if ok {
				v, e := eval.Eval(x, row)
				if e != api.OK {
					return nil, e
				}
				ok = eval.True(v)
			}
		}
		if ok {
			found = append(found, row)
		}
	}
	return slowTold(s, found, columns)
}

// slowTold: of the rows that were found.
func slowTold(s api.Stmt, found [][]api.Value, columns int) ([][]api.Value, api.Errno) {
	groups, grouped := [][][]api.Value{}, len(s.Group)+len(s.Having) > 0
	for _, x := range s.Items {
		grouped = grouped || ofGroup(x.E)
	}
	if !grouped {
		for _, r := range found {
			groups = append(groups, [][]api.Value{r})
		}
	} else if len(s.Group) == 0 {
		groups = append(groups, found)
	} else {
		of := func(r []api.Value) (l []api.Value) {
			for _, x := range s.Group {
				l = append(l, r[x.N])
			}
			return l
		}
		for _, r := range found {
			i := slices.IndexFunc(groups, func(g [][]api.Value) bool { return slices.Equal(of(g[0]), of(r)) })
			if i < 0 {
				groups = append(groups, [][]api.Value{r})
			} else {
				groups[i] = append(groups[i], r)
			}
		}
		slices.SortFunc(groups, func(a, b [][]api.Value) int { return value.CompareRows(of(a[0]), of(b[0])) })
	}
	var lines [][]api.Value // the items, and what they are ordered by
	for _, g := range groups {
		var l []api.Value
		x := slices.Clone(s.Having)
		for _, i := range s.Items {
			x = append(x, i.E)
		}
		for _, o := range s.Order {
			x = append(x, o.E)
		}
		for i, x := range x {
			v, e := eval.Fold(x, g, columns)
			if e != api.OK {
				return nil, e
			}
			if i < len(s.Having) && !eval.True(v) {
				l = nil
				break
			}
			l = append(l, v)
		}
		if l != nil {
			lines = append(lines, l[len(s.Having):])
		}
	}
	for i := len(s.Order) - 1; i >= 0; i-- {
		slices.SortStableFunc(lines, func(a, b []api.Value) int {
			c := value.Compare(a[len(s.Items)+i], b[len(s.Items)+i])
			return map[bool]int{false: c, true: -c}[s.Order[i].Desc]
		})
	}
	for i := range lines {
		lines[i] = lines[i][:len(s.Items)]
	}
	if s.Limit >= 0 {
		lines = lines[:min(s.Limit, len(lines))]
	}
	return lines, api.OK
}

// asked: a random SELECT of t (a, b, c) and u (d, c).
func asked(r *rand.Rand) string {
	two := r.Intn(3) > 0
	of := func(l ...string) string { return l[r.Intn(len(l))] }
	ints := []string{"t.a", "t.c", "1", "2", "NULL", "9223372036854775807 + t.a"}
	texts := []string{"t.b", "'x'", "NULL"}
	if two {
		ints, texts = append(ints, "u.d", "u.c", "u.d", "u.c"), append(texts, "u.e", "t.b || u.e")
	}
	some := func() string {
		if r.Intn(4) == 0 {
			return of(texts...) + of(" = ", " = ", " < ", " <> ") + of(texts...)
		}
		return of(ints...) + of(" = ", " = ", " = ", " < ", " >= ") + of(ints...)
	}
	cond := func() string {
		s := some()
		for range r.Intn(3) {
			s += of(" AND ", " AND ", " OR ") + some()
		}
		return s
	}
	from := " FROM t"
	if two {
		from += " JOIN u ON " + cond()
	}
	if r.Intn(4) > 0 {
		from += " WHERE " + cond()
	}
	limit := of("", "", " LIMIT 3")
	order := of("", " ORDER BY t.c, t.a DESC", " ORDER BY t.b DESC")
	switch r.Intn(4) {
	case 0:
		return "SELECT " + of(ints...) + ", " + of(texts...) + ", t.a" + from + order + limit
	case 1:
		return "SELECT COUNT(*), SUM(t.a), MIN(" + of(texts...) + "), SUM(" + of(ints...) + ")" + from + of("", " HAVING COUNT(t.c) > 1")
	case 2:
		return "SELECT t.c, t.b, COUNT(*), MAX(t.a)" + from + " GROUP BY t.c, t.b" + of("", " HAVING SUM(t.a) > 2") + of("", " ORDER BY SUM(t.a) DESC", " ORDER BY t.b, COUNT(*)") + limit
	}
	return "SELECT *" + from + order + limit
}

func TestAgainstLists(t *testing.T) { // P19.1 to P19.4
	r := rand.New(rand.NewSource(22))
	told := 0
	for range 20 {
		p := begun(t, "CREATE TABLE t (a INTEGER, b TEXT, c INTEGER, PRIMARY KEY (a))", "CREATE TABLE u (d INTEGER, e TEXT, c INTEGER, PRIMARY KEY (c, d))")
		tables := map[string][][]api.Value{}
		value := func(kind uint8) api.Value {
			if r.Intn(5) == 0 {
				return api.Value{}
			}
			if kind == api.KText {
				return txt([]string{"", "x", "y"}[r.Intn(3)])
			}
			return num(int64(r.Intn(4)))
		}
		for i := range int64(r.Intn(9)) {
			row := []api.Value{num(i), value(api.KText), value(api.KInt)}
			tables["t"] = append(tables["t"], row)
			insert(t, p, "t", row...)
		}
		for c := range int64(3) {
			for d := range int64(r.Intn(4)) {
				row := []api.Value{num(d), value(api.KText), num(c)}
				tables["u"] = append(tables["u"], row)
				insert(t, p, "u", row...)
			}
		}
		k, _ := p.Save()
		for range 60 {
			s := asked(r)
			c, _ := store.Tables(p)
			resolved, e := schema.Resolve(c, stmt(t, s))
			if e != api.OK {
				t.Fatal(s, e)
			}
			columns := 3 * len(resolved.From)
			want, f := slow(resolved, tables, columns)
			for _, indexes := range [][]string{nil, {"CREATE INDEX i ON t (c)", "CREATE INDEX j ON u (e, d)"}, {"CREATE INDEX k ON t (b, c)", "CREATE INDEX l ON u (d)"}} {
				p.Back(k)
				for _, x := range indexes {
					if e := store.Define(p, stmt(t, x)); e != api.OK {
						t.Fatal(x, e)
					}
				}
				names, rows, e := Select(p, stmt(t, s))
				if e != f || !slices.EqualFunc(rows, want, slices.Equal[[]api.Value]) || e == api.OK && len(names) != len(resolved.Items) {
					t.Fatal(s, rows, e, want, f)
				}
			}
			told += len(want)
		}
	}
	if told < 500 {
		t.Error("too few:", told)
	}
}
