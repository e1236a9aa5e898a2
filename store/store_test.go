package store

import (
	"math/rand"
	"slices"
	"strconv"
	"strings"
	"testing"

	"counterfoil/api"
	"counterfoil/btree"
	"counterfoil/files"
	"counterfoil/key"
	"counterfoil/pager"
	"counterfoil/parse"
	"counterfoil/record"
	"counterfoil/schema"
	"counterfoil/space"
	"counterfoil/value"
)

func num(n int64) api.Value   { return api.Value{Kind: api.KInt, N: n} }
func blob(s string) api.Value { return api.Value{Kind: api.KBlob, S: s} }

var null api.Value

func row(v ...api.Value) []api.Value { return v }

func stmt(t testing.TB, s string) api.Stmt {
	t.Helper()
	l, spot := parse.Script(s)
	if len(l) != 1 || spot.Err != api.OK {
		t.Fatal(s, spot)
	}
	return l[0]
}

func want(t testing.TB, what string, got, e api.Errno) {
	t.Helper()
	if got != e {
		t.Errorf("%s: %d, not %d", what, got, e)
	}
}

// begun: a pager of a new disk, in a transaction, with what these statements create.
func begun(t testing.TB, texts ...string) *pager.Pager {
	t.Helper()
	p, e := pager.Open(files.New())
	if e != api.OK || space.Begin(p) != api.OK {
		t.Fatal("Open, Begin")
	}
	for _, s := range texts {
		if e := Define(p, stmt(t, s)); e != api.OK {
			t.Fatal(s, e)
		}
	}
	return p
}

// some: t (a INTEGER, b TEXT, key a), with an index i on b.
func some(t testing.TB) *pager.Pager {
	return begun(t, "CREATE TABLE t (a INTEGER, b TEXT, PRIMARY KEY (a))", "CREATE INDEX i ON t (b)")
}

// told: rows by their literals.
func told(rows [][]api.Value) string {
	var l []string
	for _, r := range rows {
		var s []string
		for _, v := range r {
			s = append(s, value.Literal(v))
		}
		l = append(l, strings.Join(s, " "))
	}
	return strings.Join(l, "; ")
}

// rows: what Rows tells.
func rows(t testing.TB, p *pager.Pager, table, index string, l ...api.Value) string {
	t.Helper()
	r, e := Rows(p, table, index, l)
	if e != api.OK {
		t.Fatal(table, index, e)
	}
	return told(r)
}

// accounted: fails unless Check is OK, and trees, free pages and page 1 are all pages.
func accounted(t testing.TB, p *pager.Pager) {
	t.Helper()
	n, e := Check(p)
	h, f := space.Read(p)
	if e != api.OK || f != api.OK || n+h.Count+1 != p.Pages() {
		t.Fatal("Check:", n, h.Count, p.Pages(), e, f)
	}
}

func TestExamples(t *testing.T) {
	p := some(t)
	want(t, "Insert", Insert(p, "t", row(num(2), text("x"))), api.OK)
	want(t, "Insert", Insert(p, "t", row(num(1), text("x"))), api.OK)
	want(t, "Insert", Insert(p, "t", row(num(1), text("y"))), api.ErrUnique)
	want(t, "Insert", Insert(p, "t", row(null, text("y"))), api.ErrNull)
	want(t, "Insert", Insert(p, "t", row(num(1))), api.ErrArg)
	if rows(t, p, "t", "") != "1 'x'; 2 'x'" || rows(t, p, "t", "i", text("x")) != "1 'x'; 2 'x'" || rows(t, p, "t", "", num(2)) != "2 'x'" {
		t.Error("Rows")
	}
	_, e := Rows(p, "t", "j", nil)
	want(t, "Rows", e, api.ErrIndex)
	if r, e := Get(p, "t", row(num(1))); told([][]api.Value{r}) != "1 'x'" || e != api.OK {
		t.Error(r, e)
	}
	want(t, "Delete", Delete(p, "t", row(num(1))), api.OK)
	_, e = Get(p, "t", row(num(1)))
	want(t, "Get", e, api.ErrNone)
	want(t, "Delete", Delete(p, "q", row(num(1))), api.ErrTable)
	accounted(t, p)
}

func TestTables(t *testing.T) { // P17.1, P17.2
	if c, e := Tables(nil); c != nil || e != api.ErrNil {
		t.Error(c, e)
	}
	p, _ := pager.Open(files.New())
	if c, e := Tables(p); len(c) != 0 || e != api.OK {
		t.Error(c, e)
	}
	if n, e := Check(p); n != 0 || e != api.OK {
		t.Error(n, e)
	}
	p = begun(t)
	var c []api.Table
	for _, s := range []string{
		"CREATE TABLE z (a INTEGER, PRIMARY KEY (a))", "CREATE TABLE b (x BLOB NOT NULL, y TEXT, a INTEGER NOT NULL, PRIMARY KEY (y, a))", "CREATE UNIQUE INDEX m ON b (a, x)", "CREATE INDEX c ON b (x)", "CREATE INDEX z ON z (a)",
		"DROP INDEX c", "DROP TABLE z", "CREATE INDEX z ON b (y)", "DROP INDEX m", "DROP TABLE b",
	} {
		var e api.Errno
		if c, e = schema.Define(c, stmt(t, s)); e != api.OK {
			t.Fatal(s, e)
		}
		want(t, s, Define(p, stmt(t, s)), api.OK)
		if got, e := Tables(p); !schema.Same(got, c) || e != api.OK {
			t.Error(s, got, e)
		}
		accounted(t, p)
	}
}

func TestDefineErrors(t *testing.T) { // P17.2
	want(t, "nil", Define(nil, api.Stmt{}), api.ErrNil)
	p := some(t)
	for _, c := range []struct {
		s string
		e api.Errno
	}{
		{"CREATE TABLE t (a TEXT, PRIMARY KEY (a))", api.ErrExists}, {"DROP TABLE u", api.ErrTable}, {"CREATE INDEX i ON t (a)", api.ErrExists}, {"CREATE INDEX j ON u (a)", api.ErrTable}, {"CREATE INDEX j ON t (x)", api.ErrColumn}, {"DROP INDEX j", api.ErrIndex}, {"SELECT * FROM t", api.ErrArg}, {"BEGIN", api.ErrArg},
	} {
		want(t, c.s, Define(p, stmt(t, c.s)), c.e)
	}
	for i, c := range []struct {
		b string
		e api.Errno
	}{{"x", api.OK}, {"y", api.OK}, {"x", api.ErrUnique}, {strings.Repeat("k", 90), api.ErrLong}} {
		p := begun(t, "CREATE TABLE t (a INTEGER, b TEXT, PRIMARY KEY (a))")
		Insert(p, "t", row(num(1), text("x")))
		Insert(p, "t", row(num(2), null))
		Insert(p, "t", row(num(3), null))
		Insert(p, "t", row(num(4), text("z")))
		if i > 0 {
			want(t, "Insert", Insert(p, "t", row(num(5), text(c.b))), api.OK)
		}
		want(t, "CREATE UNIQUE INDEX", Define(p, stmt(t, "CREATE UNIQUE INDEX j ON t (b, a)")), api.Errno(map[bool]api.Errno{true: api.ErrLong}[c.e == api.ErrLong]))
		want(t, "CREATE UNIQUE INDEX", Define(p, stmt(t, "CREATE UNIQUE INDEX k ON t (b)")), c.e)
		if c.e == api.OK {
			accounted(t, p)
		}
	}
	// The first row that has an error tells which one.
	p = begun(t, "CREATE TABLE t (a INTEGER, b TEXT, PRIMARY KEY (a))")
	for i, b := range []string{"x", "x", strings.Repeat("k", 90)} {
		Insert(p, "t", row(num(int64(i)), text(b)))
	}
	want(t, "unique first", Define(p, stmt(t, "CREATE UNIQUE INDEX k ON t (b)")), api.ErrUnique)
	want(t, "long", Define(p, stmt(t, "CREATE INDEX k ON t (b)")), api.ErrLong)
	Insert(p, "t", row(num(-1), text(strings.Repeat("k", 90))))
	want(t, "long first", Define(p, stmt(t, "CREATE UNIQUE INDEX k ON t (b)")), api.ErrLong)
}

func TestLongWriting(t *testing.T) { // P17.2
	make := func(n int) string {
		s := "CREATE TABLE t ( "
		for i := range n {
			s += strings.Repeat("c", 30) + strconv.Itoa(10+i) + " INTEGER NOT NULL , "
		}
		return s
	}
	s := make(16) + "PRIMARY KEY ( " + strings.Repeat("c", 30) + "10"
	for i := 1; len(s) < 1001; i++ {
		s += " , " + strings.Repeat("c", 30) + strconv.Itoa(10+i)
	}
	s += " ) )"
	w, _ := parse.Print(stmt(t, s))
	for len(w) > api.MaxValue {
		w = strings.Replace(w, " NOT NULL", "", 1)
	}
	p := begun(t)
	want(t, "well", Define(p, stmt(t, w)), api.OK)
	p = begun(t)
	if len(s) <= api.MaxValue {
		t.Fatal(len(s))
	}
	want(t, "too long", Define(p, stmt(t, s)), api.ErrLong)
	space.Commit(p)
	want(t, "ahead of ErrState", Define(p, stmt(t, s)), api.ErrLong)
}

func TestState(t *testing.T) { // without a transaction
	p := some(t)
	Insert(p, "t", row(num(1), text("x")))
	Insert(p, "t", row(num(2), text("x")))
	want(t, "Commit", space.Commit(p), api.OK)
	for _, s := range []string{"CREATE TABLE u (a TEXT, PRIMARY KEY (a))", "DROP TABLE t", "CREATE INDEX j ON t (a)", "DROP INDEX i"} {
		want(t, s, Define(p, stmt(t, s)), api.ErrState)
	}
	want(t, "unique ahead", Define(p, stmt(t, "CREATE UNIQUE INDEX j ON t (b)")), api.ErrUnique)
	want(t, "Insert", Insert(p, "t", row(num(3), text("x"))), api.ErrState)
	want(t, "unique ahead", Insert(p, "t", row(num(1), text("x"))), api.ErrUnique)
	want(t, "long ahead", Insert(p, "t", row(num(3), text(strings.Repeat("k", 90)))), api.ErrLong)
	want(t, "Delete", Delete(p, "t", row(num(1))), api.ErrState)
	want(t, "none ahead", Delete(p, "t", row(num(3))), api.ErrNone)
	if rows(t, p, "t", "i") != "1 'x'; 2 'x'" {
		t.Error(rows(t, p, "t", "i"))
	}
	accounted(t, p)
}

func TestInsertErrors(t *testing.T) { // P17.3
	want(t, "nil", Insert(nil, "t", nil), api.ErrNil)
	p := begun(t, "CREATE TABLE t (a TEXT, b TEXT, c BLOB NOT NULL, d TEXT, e TEXT, f TEXT, PRIMARY KEY (b, a))", "CREATE UNIQUE INDEX i ON t (d)", "CREATE INDEX j ON t (c)")
	long := strings.Repeat("l", 1000)
	full := func(a, b, c, d, e api.Value) []api.Value { return row(a, b, c, d, e, null) }
	for i, c := range []struct {
		table string
		row   []api.Value
		e     api.Errno
	}{
		{"u", nil, api.ErrTable}, {"t", nil, api.ErrArg}, {"t", row(null, null, null, null, null, null, null), api.ErrArg},
		{"t", full(num(1), null, null, null, null), api.ErrArg}, {"t", full(null, null, text("c"), null, null), api.ErrArg}, {"t", full(null, null, null, text(long+"l"), null), api.ErrArg}, {"t", full(null, null, null, null, api.Value{Kind: 9}), api.ErrArg}, {"t", full(null, null, null, null, api.Value{N: 1}), api.ErrArg},
		{"t", full(null, text("b"), blob("c"), null, null), api.ErrNull}, {"t", full(text("a"), text("b"), null, text(long), null), api.ErrNull},
		{"t", full(text("a"), text("b"), blob("c"), null, text(long)), api.OK},
		{"t", full(text(strings.Repeat("a", 90)), text("bbbbb"), blob("c"), null, null), api.ErrLong}, // a key of 101 bytes
		{"t", row(text(long), text("b"), blob(long), text(long), text(long), text(long)), api.ErrLong},
		{"t", full(text("a"), text("b"), blob(strings.Repeat("c", 99)), null, null), api.ErrUnique}, // ahead of the index's ErrLong
		{"t", full(text("a"), text("c"), blob(strings.Repeat("c", 90)), null, null), api.ErrLong},
		{"t", full(text("a"), text("c"), blob("c"), text("d"), null), api.OK},
		{"t", full(text("a"), text("d"), blob(strings.Repeat("c", 90)), text("d"), null), api.ErrUnique}, // i ahead of j
		{"t", full(text("a"), text("d"), blob("c"), text(strings.Repeat("d", 90)), null), api.ErrLong},
		{"t", full(text("a"), text("d"), blob("c"), null, null), api.OK}, {"t", full(text("a"), text("e"), blob("c"), null, null), api.OK},
		{"t", full(text("a"), text("f"), blob("c"), text("dd"), null), api.OK},
	} {
		want(t, strconv.Itoa(i), Insert(p, c.table, c.row), c.e)
	}
	accounted(t, p)
	p = begun(t, "CREATE TABLE t (a INTEGER, b TEXT, c TEXT, d TEXT, e TEXT, PRIMARY KEY (a))")
	want(t, "a record of 4000 bytes", Insert(p, "t", row(num(1), text(long), text(long), text(long), text(long[:989]))), api.OK)
	want(t, "of 4001", Insert(p, "t", row(num(2), text(long), text(long), text(long), text(long[:990]))), api.ErrLong)
	accounted(t, p)
	if r, e := Get(p, "t", row(num(1))); len(r) != 5 || r[4].S != long[:989] || e != api.OK {
		t.Error(e)
	}
	p = begun(t, "CREATE TABLE t (a TEXT, PRIMARY KEY (a))")
	want(t, "a key of 100 bytes", Insert(p, "t", row(text(strings.Repeat("k", 97)))), api.OK)
	want(t, "of 101", Insert(p, "t", row(text(strings.Repeat("k", 98)))), api.ErrLong)
}

func TestDeleteGetRowsErrors(t *testing.T) { // P17.4, P17.5
	want(t, "nil", Delete(nil, "", nil), api.ErrNil)
	_, e := Get(nil, "", nil)
	want(t, "nil", e, api.ErrNil)
	_, e = Rows(nil, "", "", nil)
	want(t, "nil", e, api.ErrNil)
	p := some(t)
	Insert(p, "t", row(num(1), null))
	for _, c := range []struct {
		table string
		key   []api.Value
		e     api.Errno
	}{
		{"u", nil, api.ErrTable}, {"t", nil, api.ErrArg}, {"t", row(num(1), num(2)), api.ErrArg}, {"t", row(api.Value{Kind: 4}), api.ErrArg}, {"t", row(text(strings.Repeat("a", 1001))), api.ErrArg},
		{"t", row(num(2)), api.ErrNone}, {"t", row(null), api.ErrNone}, {"t", row(text("1")), api.ErrNone}, {"t", row(text(strings.Repeat("a", 1000))), api.ErrNone},
	} {
		r, e := Get(p, c.table, c.key)
		want(t, "Get", e, c.e)
		want(t, "Delete", Delete(p, c.table, c.key), c.e)
		if r != nil {
			t.Error(r)
		}
	}
	for _, c := range []struct {
		table, index string
		part         []api.Value
		e            api.Errno
	}{
		{"u", "j", nil, api.ErrTable}, {"t", "j", row(num(1), num(2)), api.ErrIndex}, {"t", "t", nil, api.ErrIndex}, {"t", "i", row(num(1), num(2)), api.ErrArg}, {"t", "", row(num(1), num(2)), api.ErrArg}, {"t", "", row(api.Value{Kind: 4}), api.ErrArg}, {"t", "i", row(text(strings.Repeat("a", 1001))), api.ErrArg},
	} {
		r, e := Rows(p, c.table, c.index, c.part)
		want(t, "Rows", e, c.e)
		if r != nil {
			t.Error(r)
		}
	}
	if rows(t, p, "t", "i", null) != "1 NULL" || rows(t, p, "t", "i", num(3)) != "" || rows(t, p, "t", "", text(strings.Repeat("a", 1000))) != "" {
		t.Error("Rows")
	}
}

func TestRowsParts(t *testing.T) { // P17.5: as many values as the index has columns
	p := begun(t, "CREATE TABLE t (a INTEGER, b TEXT, c INTEGER, PRIMARY KEY (a, b))", "CREATE INDEX i ON t (c)", "CREATE INDEX j ON t (c, b, a)")
	Insert(p, "t", row(num(1), text("x"), num(2)))
	for index, n := range map[string]int{"": 2, "i": 1, "j": 3} {
		for k := range 5 {
			l := map[string][]api.Value{"": {num(1), text("x"), null, null}, "i": {num(2), null, null, null}, "j": {num(2), text("x"), num(1), null}}[index][:min(k, 4)]
			r, e := Rows(p, "t", index, l)
			if k <= n && (len(r) != 1 || e != api.OK) || k > n && (r != nil || e != api.ErrArg) {
				t.Error(index, k, r, e)
			}
		}
	}
}

func TestRowsOrder(t *testing.T) { // P17.5: the order of rows is that of their keys
	p := begun(t, "CREATE TABLE t (a INTEGER, b TEXT, c INTEGER, PRIMARY KEY (a, b))", "CREATE INDEX i ON t (c, b)")
	for i, s := range []string{"a", "aa", "b", "", "a\x00"} {
		Insert(p, "t", row(num(int64(-i%2)), text(s), num(int64(9-i))))
		Insert(p, "t", row(num(5), text(s), num(3)))
	}
	if s := rows(t, p, "t", ""); s != "-1 '' 6; -1 'aa' 8; 0 'a' 9; 0 'a\x00' 5; 0 'b' 7; 5 '' 3; 5 'a' 3; 5 'a\x00' 3; 5 'aa' 3; 5 'b' 3" {
		t.Errorf("%q", s)
	}
	if rows(t, p, "t", "i") != rows(t, p, "t", "") {
		t.Error(rows(t, p, "t", "i"))
	}
	if s := rows(t, p, "t", "", num(0)); s != "0 'a' 9; 0 'a\x00' 5; 0 'b' 7" {
		t.Errorf("%q", s)
	}
	if s := rows(t, p, "t", "i", num(3), text("a")); s != "5 'a' 3" {
		t.Errorf("%q", s)
	}
	if s := rows(t, p, "t", "", num(5), text("a\x00")); s != "5 'a\x00' 3" {
		t.Errorf("%q", s)
	}
}

// keyOfValues, rec: the bytes of a key, and of a record.
func keyOfValues(t testing.TB, v ...api.Value) string {
	s, e := key.Put(v...)
	if e != api.OK {
		t.Fatal(e)
	}
	return s
}

func rec(t testing.TB, v ...api.Value) string {
	s, e := record.Put(v)
	if e != api.OK {
		t.Fatal(e)
	}
	return s
}

func TestInTheFile(t *testing.T) { // what is kept, and where
	p := begun(t, "CREATE TABLE t (a INTEGER, b TEXT, PRIMARY KEY (a))")
	h, _ := space.Read(p)
	if p.Pages() != 2 || h.Roots != [8]int{2} {
		t.Error(p.Pages(), h)
	}
	k := keyOfValues(t, num(1), text("t"))
	w := "CREATE TABLE t ( a INTEGER , b TEXT , PRIMARY KEY ( a ) )"
	if s, e := btree.Get(p, 2, k); s != rec(t, text(w), num(0)) || e != api.OK {
		t.Errorf("%q %d", s, e)
	}
	Insert(p, "t", row(num(7), text("x")))
	want(t, "index", Define(p, stmt(t, "CREATE UNIQUE INDEX i ON t (b)")), api.OK)
	if s, e := btree.Get(p, 2, k); s != rec(t, text(w), num(3)) || e != api.OK {
		t.Errorf("%q %d", s, e)
	}
	if s, e := btree.Get(p, 2, keyOfValues(t, num(2), text("i"))); s != rec(t, text("CREATE UNIQUE INDEX i ON t ( b )"), num(4)) || e != api.OK {
		t.Errorf("%q %d", s, e)
	}
	if s, e := btree.Get(p, 3, keyOfValues(t, num(7))); s != rec(t, num(7), text("x")) || e != api.OK {
		t.Errorf("%q %d", s, e)
	}
	if s, e := btree.Get(p, 4, keyOfValues(t, text("x"), num(7))); s != "" || e != api.OK {
		t.Errorf("%q %d", s, e)
	}
	want(t, "Delete", Delete(p, "t", row(num(7))), api.OK)
	want(t, "drop", Define(p, stmt(t, "DROP TABLE t")), api.OK)
	h, _ = space.Read(p)
	if h.Roots != [8]int{} || h.Count != p.Pages()-1 {
		t.Error(h)
	}
}

func TestBytes(t *testing.T) { // P17.1, P17.6: what is not as told
	put := func(p *pager.Pager, root int, k, s string) {
		if r, e := btree.Put(p, root, k, s); e != api.OK || r != root {
			t.Fatal(r, e)
		}
	}
	table, index := keyOfValues(t, num(1), text("t")), keyOfValues(t, num(2), text("i"))
	w := "CREATE TABLE t ( a INTEGER , b TEXT , PRIMARY KEY ( a ) )"
	for i, c := range []struct {
		spoil  func(p *pager.Pager)
		tables api.Errno
	}{
		{func(p *pager.Pager) { put(p, 2, "x", "") }, api.ErrBytes},
		{func(p *pager.Pager) { put(p, 2, table, "") }, api.ErrBytes},
		{func(p *pager.Pager) { put(p, 2, table, rec(t, text(w))) }, api.ErrBytes},
		{func(p *pager.Pager) { put(p, 2, table, rec(t, text(w), null)) }, api.ErrBytes},
		{func(p *pager.Pager) { put(p, 2, table, rec(t, num(3), text(w))) }, api.ErrBytes},
		{func(p *pager.Pager) { put(p, 2, table, rec(t, text(w), num(-1))) }, api.ErrBytes},
		{func(p *pager.Pager) { put(p, 2, table, rec(t, text(w), num(1<<40))) }, api.ErrBytes},
		{func(p *pager.Pager) { put(p, 2, table, rec(t, text(w+" "), num(3))) }, api.ErrBytes},
		{func(p *pager.Pager) { put(p, 2, table, rec(t, text("DROP TABLE t"), num(3))) }, api.ErrBytes},
		{func(p *pager.Pager) {
			put(p, 2, table, rec(t, text("CREATE TABLE u ( a INTEGER , PRIMARY KEY ( a ) )"), num(3)))
		}, api.ErrBytes},
		{func(p *pager.Pager) {
			put(p, 2, table, rec(t, text("CREATE TABLE t ( a INTEGER , PRIMARY KEY ( b ) )"), num(3)))
		}, api.ErrBytes},
		{func(p *pager.Pager) {
			put(p, 2, keyOfValues(t, num(2), text("j")), rec(t, text("CREATE INDEX j ON u ( a )"), num(0)))
		}, api.ErrBytes},
		{func(p *pager.Pager) {
			put(p, 2, keyOfValues(t, num(3), text("j")), rec(t, text("CREATE INDEX j ON t ( a )"), num(0)))
		}, api.ErrBytes},
		{func(p *pager.Pager) { space.SetRoot(p, 0, 3) }, api.ErrBytes},
		{func(p *pager.Pager) { p.Write(2, strings.Repeat("x", 512)) }, api.ErrBytes},
		{func(p *pager.Pager) { put(p, 2, table, rec(t, text(w), num(9))) }, api.OK},
		{func(p *pager.Pager) { put(p, 2, table, rec(t, text(w), num(4))) }, api.OK},
		{func(p *pager.Pager) { put(p, 2, index, rec(t, text("CREATE UNIQUE INDEX i ON t ( b )"), num(4))) }, api.OK},
		{func(p *pager.Pager) { put(p, 2, index, rec(t, text("CREATE INDEX i ON t ( b , a )"), num(4))) }, api.OK},
		{func(p *pager.Pager) {
			put(p, 2, keyOfValues(t, num(2), text("j")), rec(t, text("CREATE INDEX j ON t ( a )"), num(0)))
		}, api.OK},
		{func(p *pager.Pager) {
			put(p, 2, keyOfValues(t, num(2), text("j")), rec(t, text("CREATE INDEX j ON t ( b )"), num(4)))
		}, api.OK}, // two indexes, one tree
		{func(p *pager.Pager) { put(p, 3, keyOfValues(t, num(9)), rec(t, num(8), null)) }, api.OK},
		{func(p *pager.Pager) { put(p, 3, keyOfValues(t, num(9)), rec(t, num(9), null)) }, api.OK},
		{func(p *pager.Pager) { put(p, 3, keyOfValues(t, num(2)), rec(t, num(2), text("y"))) }, api.OK},
		{func(p *pager.Pager) { put(p, 3, keyOfValues(t, num(2)), rec(t, num(2), num(3))) }, api.OK},
		{func(p *pager.Pager) { put(p, 3, keyOfValues(t, num(2)), rec(t, num(2))) }, api.OK},
		{func(p *pager.Pager) { put(p, 3, keyOfValues(t, num(2)), "?") }, api.OK},
		{func(p *pager.Pager) { put(p, 3, keyOfValues(t, null), rec(t, null, null)) }, api.OK},
		{func(p *pager.Pager) { put(p, 4, keyOfValues(t, text("x"), num(9)), "") }, api.OK},
		{func(p *pager.Pager) { put(p, 4, keyOfValues(t, text("x"), num(2)), "?") }, api.OK},
		{func(p *pager.Pager) { put(p, 4, keyOfValues(t, text("x")), "") }, api.OK},
		{func(p *pager.Pager) { btree.Delete(p, 4, keyOfValues(t, text("x"), num(2))) }, api.OK},
		{func(p *pager.Pager) { btree.Delete(p, 3, keyOfValues(t, num(2))) }, api.OK},
		{func(p *pager.Pager) { p.Write(3, strings.Repeat("x", 512)) }, api.OK},
		{func(p *pager.Pager) { p.Write(4, strings.Repeat("x", 512)) }, api.OK},
	} {
		p := some(t)
		Insert(p, "t", row(num(1), text("x")))
		Insert(p, "t", row(num(2), text("x")))
		accounted(t, p)
		c.spoil(p)
		_, e := Tables(p)
		want(t, "Tables "+strconv.Itoa(i), e, c.tables)
		n, e := Check(p)
		want(t, "Check "+strconv.Itoa(i), e, api.ErrBytes)
		if n != 0 {
			t.Error(n)
		}
		if c.tables != api.OK {
			want(t, "Insert", Insert(p, "t", row(num(3), text("x"))), api.ErrBytes)
			_, e = Rows(p, "t", "", nil)
			want(t, "Rows", e, api.ErrBytes)
		}
		Get(p, "t", row(num(2)))
		Rows(p, "t", "i", row(text("x")))
		Rows(p, "t", "", nil)
		Delete(p, "t", row(num(2)))
		Define(p, stmt(t, "DROP INDEX i"))
		Define(p, stmt(t, "DROP TABLE t"))
	}
}

func TestReadErrors(t *testing.T) { // pager's errors come through
	d := files.New()
	p, _ := pager.Open(d)
	space.Begin(p)
	Define(p, stmt(t, "CREATE TABLE t (a INTEGER, PRIMARY KEY (a))"))
	for i := range 200 {
		Insert(p, "t", row(num(int64(i))))
	}
	space.Commit(p)
	p.Checkpoint()
	d.Power(0)
	d.Sync(0)
	_, e := Tables(p)
	want(t, "Tables", e, api.ErrOff)
	_, e = Rows(p, "t", "", nil)
	want(t, "Rows", e, api.ErrOff)
	_, e = Check(p)
	want(t, "Check", e, api.ErrOff)
}

// model is a table as a list of rows.
type model struct {
	t    api.Table
	rows [][]api.Value
}

func (m *model) insert(v []api.Value) api.Errno {
	for _, r := range m.rows {
		if value.CompareRows(part(r, m.t.Key...), part(v, m.t.Key...)) == 0 {
			return api.ErrUnique
		}
	}
	for _, x := range m.t.Indexes {
		for _, r := range m.rows {
			if p := part(v, x.Columns...); x.Unique && !slices.Contains(p, null) && value.CompareRows(part(r, x.Columns...), p) == 0 {
				return api.ErrUnique
			}
		}
	}
	m.rows = append(m.rows, v)
	slices.SortFunc(m.rows, func(a, b []api.Value) int { return value.CompareRows(part(a, m.t.Key...), part(b, m.t.Key...)) })
	return api.OK
}

func (m *model) some(columns []int, begin []api.Value) (rows [][]api.Value) {
	for _, r := range m.rows {
		if slices.Equal(part(r, columns...)[:len(begin)], begin) {
			rows = append(rows, r)
		}
	}
	return rows
}

func TestModel(t *testing.T) { // P17.3 to P17.8
	for seed := range int64(25) {
		r := rand.New(rand.NewSource(seed))
		p := begun(t, "CREATE TABLE t (a INTEGER, b TEXT, c INTEGER, PRIMARY KEY (a, b))")
		m := &model{}
		some := func(k int) api.Value {
			if k == 1 {
				return text(strings.Repeat("s", r.Intn(3)))
			}
			if k == 2 && r.Intn(4) == 0 {
				return null
			}
			return num(int64(r.Intn(6)))
		}
		for step := range 250 {
			c, e := Tables(p)
			if e != api.OK {
				t.Fatal(e)
			}
			m.t = c[0]
			k, _ := p.Save()
			switch r.Intn(12) {
			case 0:
				s := []string{"CREATE INDEX i ON t (c)", "CREATE UNIQUE INDEX u ON t (c, b)", "CREATE INDEX j ON t (b, c)", "DROP INDEX i", "DROP INDEX u", "DROP INDEX j"}[r.Intn(6)]
				Define(p, stmt(t, s)) // whether it may be is told by rows; what is kept must be sound
				if _, e := Check(p); e != api.OK {
					t.Fatal(s, e)
				}
			case 1, 2, 3, 4:
				v := row(some(0), some(1), some(2))
				before := slices.Clone(m.rows)
				if e, f := Insert(p, "t", v), m.insert(v); e != f {
					t.Fatal("Insert:", e, f)
				}
				if r.Intn(5) == 0 {
					p.Back(k)
					m.rows = before
				}
			case 5, 6:
				v := row(some(0), some(1))
				i := slices.IndexFunc(m.rows, func(r []api.Value) bool { return slices.Equal(r[:2], v) })
				got, f := Get(p, "t", v)
				e := Delete(p, "t", v)
				if (i < 0) != (e == api.ErrNone) || e != f || i >= 0 && !slices.Equal(got, m.rows[i]) {
					t.Fatal("Delete:", e, f, i)
				}
				if i >= 0 {
					m.rows = slices.Delete(slices.Clone(m.rows), i, i+1)
				}
			default:
				index, columns := "", m.t.Key
				if len(m.t.Indexes) > 0 && r.Intn(3) > 0 {
					x := m.t.Indexes[r.Intn(len(m.t.Indexes))]
					index, columns = x.Name, x.Columns
				}
				var begin []api.Value
				for _, n := range columns[:r.Intn(len(columns)+1)] {
					begin = append(begin, some(n))
				}
				if got := rows(t, p, "t", index, begin...); got != told(m.some(columns, begin)) {
					t.Fatal("Rows:", index, begin, got)
				}
			}
			p.Release(k)
			if step%10 == 0 {
				accounted(t, p)
			}
		}
		accounted(t, p)
		want(t, "drop", Define(p, stmt(t, "DROP TABLE t")), api.OK)
		accounted(t, p)
	}
}

func TestFull(t *testing.T) { // P17.7: where there is no room, what was done is undone by Back
	p := some(t)
	n := 0
	for i := range int64(2000) {
		k, _ := p.Save()
		e := Insert(p, "t", row(num(i*7919%2000), text(strconv.FormatInt(i, 10)+strings.Repeat("x", 60))))
		if e != api.OK {
			want(t, "Insert", e, api.ErrFull)
			p.Back(k)
			n++
		}
		p.Release(k)
		if n > 20 {
			break
		}
	}
	accounted(t, p)
	if n == 0 {
		t.Error("never full")
	}
}
