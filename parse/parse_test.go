package parse

import (
	"reflect"
	"strings"
	"testing"

	"counterfoil/api"
)

func num(n int64) api.Expr  { return value(api.Value{Kind: api.KInt, N: n}) }
func txt(s string) api.Expr { return value(api.Value{Kind: api.KText, S: s}) }
func col(s string) api.Expr { return api.Expr{Op: api.ExColumn, Name: s} }

func op(op uint8, kids ...api.Expr) api.Expr { return api.Expr{Op: op, Kids: kids} }

func TestExpr(t *testing.T) { // P14.2, P14.6
	a, b, c := col("a"), col("b"), col("c")
	for _, k := range []struct {
		s string
		x api.Expr
	}{
		{"1 + 2 * 3", op(api.ExAdd, num(1), op(api.ExMul, num(2), num(3)))},
		{"(1 + 2) * 3", op(api.ExMul, op(api.ExAdd, num(1), num(2)), num(3))},
		{"((a))", a},
		{"t.a", api.Expr{Op: api.ExColumn, Table: "t", Name: "a"}},
		{"NULL", value(api.Value{})}, {"'x'", txt("x")}, {"x'00'", value(api.Value{Kind: api.KBlob, S: "\x00"})},
		{"9223372036854775807", num(1<<63 - 1)}, {"-9223372036854775808", num(-1 << 63)}, {"- 5", num(-5)}, {"-0", num(0)},
		{"-(5)", op(api.ExNeg, num(5))}, {"- - 5", op(api.ExNeg, num(-5))}, {"-a", op(api.ExNeg, a)}, {"- - a", op(api.ExNeg, op(api.ExNeg, a))},
		{"1 -5", op(api.ExSub, num(1), num(5))}, {"1 - -5", op(api.ExSub, num(1), num(-5))}, {"a - - 9223372036854775808", op(api.ExSub, a, num(-1<<63))},
		{"a - b - c", op(api.ExSub, op(api.ExSub, a, b), c)}, {"a / b * c % 2", op(api.ExMod, op(api.ExMul, op(api.ExDiv, a, b), c), num(2))},
		{"a || b + c || a", op(api.ExJoin, op(api.ExJoin, a, op(api.ExAdd, b, c)), a)},
		{"-a * b", op(api.ExMul, op(api.ExNeg, a), b)}, {"a * -b", op(api.ExMul, a, op(api.ExNeg, b))},
		{"a = b", op(api.ExEq, a, b)}, {"a <> b", op(api.ExNe, a, b)}, {"a < b", op(api.ExLt, a, b)}, {"a <= b", op(api.ExLe, a, b)}, {"a > b", op(api.ExGt, a, b)}, {"a >= b", op(api.ExGe, a, b)},
		{"a + 1 = b || c", op(api.ExEq, op(api.ExAdd, a, num(1)), op(api.ExJoin, b, c))},
		{"a IS NULL", op(api.ExIsNull, a)}, {"a IS NOT NULL", op(api.ExNot, op(api.ExIsNull, a))}, {"a + b IS NULL", op(api.ExIsNull, op(api.ExAdd, a, b))},
		{"NOT a = b", op(api.ExNot, op(api.ExEq, a, b))}, {"NOT NOT a", op(api.ExNot, op(api.ExNot, a))},
		{"a OR b AND NOT c OR a", op(api.ExOr, op(api.ExOr, a, op(api.ExAnd, b, op(api.ExNot, c))), a)},
		{"a AND b AND c", op(api.ExAnd, op(api.ExAnd, a, b), c)}, {"a AND (b AND c)", op(api.ExAnd, a, op(api.ExAnd, b, c))},
		{"COUNT(*)", op(api.ExCount)}, {"COUNT(a)", op(api.ExCount, a)}, {"SUM(a + 1) + MIN(b)", op(api.ExAdd, op(api.ExSum, op(api.ExAdd, a, num(1))), op(api.ExMin, b))}, {"MAX(a OR b)", op(api.ExMax, op(api.ExOr, a, b))},
		{strings.Repeat("(", 2000) + "a" + strings.Repeat(")", 2000), a},
	} {
		x, spot := Expr(k.s)
		if !reflect.DeepEqual(x, k.x) || spot != (api.Spot{}) {
			t.Errorf("%.50q: %v %v", k.s, x, spot)
		}
		if x, spot := Expr("( " + k.s + ")"); len(k.s) < 4000 && (!SameExpr(x, k.x) || spot != (api.Spot{})) {
			t.Errorf("brackets around %.50q: %v", k.s, spot)
		}
	}
}

func TestExprWrong(t *testing.T) { // P14.2
	for _, k := range []struct {
		s  string
		e  api.Errno
		at int
	}{
		{"", api.ErrText, 0}, {"  ", api.ErrText, 2}, {"a IS NOT NULL = 1", api.ErrText, 14}, {"1 = 2 = 3", api.ErrText, 6}, {"a IS NULL IS NULL", api.ErrText, 10}, {"a = b IS NULL", api.ErrText, 6},
		{"9223372036854775808", api.ErrRange, 0}, {"1 - 9223372036854775808", api.ErrRange, 4}, {"-(9223372036854775808)", api.ErrRange, 2}, {"a + 9223372036854775808 +", api.ErrRange, 4},
		{"a +", api.ErrText, 3}, {"a + ", api.ErrText, 4}, {"(a", api.ErrText, 2}, {"a)", api.ErrText, 1}, {"a b", api.ErrText, 2}, {"a.", api.ErrText, 2}, {"a.b.c", api.ErrText, 3}, {"a.1", api.ErrText, 2},
		{"a = NOT b", api.ErrText, 4}, {"1 + NOT b", api.ErrText, 4}, {"- NOT b", api.ErrText, 2}, {"+ 1", api.ErrText, 0}, {"*", api.ErrText, 0},
		{"COUNT", api.ErrText, 5}, {"COUNT()", api.ErrText, 6}, {"COUNT(* a)", api.ErrText, 8}, {"SUM(*)", api.ErrText, 4}, {"COUNT(a, b)", api.ErrText, 7}, {"SUM a", api.ErrText, 4},
		{"a IS", api.ErrText, 4}, {"a IS NOT", api.ErrText, 8}, {"a IS 1", api.ErrText, 5}, {"a NOT NULL", api.ErrText, 2}, {"SELECT", api.ErrText, 0}, {"a;", api.ErrText, 1},
		{"a + !", api.ErrText, 4}, {") + SELEC", api.ErrText, 4}, {") 9223372036854775809", api.ErrRange, 2}, // the tokens' error first
	} {
		x, spot := Expr(k.s)
		if !reflect.DeepEqual(x, api.Expr{}) || spot != (api.Spot{Err: k.e, At: k.at}) {
			t.Errorf("%q: %v %v", k.s, x, spot)
		}
	}
}

func TestScript(t *testing.T) { // P14.1
	a := col("a")
	for _, k := range []struct {
		s string
		l []api.Stmt
	}{
		{"", nil}, {" --x", nil}, {"BEGIN;", []api.Stmt{{Kind: api.StBegin}}},
		{"BEGIN; COMMIT; ROLLBACK", []api.Stmt{{Kind: api.StBegin}, {Kind: api.StCommit}, {Kind: api.StRollback}}},
		{"SAVEPOINT s; ROLLBACK TO s; RELEASE s;", []api.Stmt{{Kind: api.StSave, Name: "s"}, {Kind: api.StBack, Name: "s"}, {Kind: api.StRelease, Name: "s"}}},
		{"CREATE TABLE t (a INTEGER NOT NULL, b TEXT, c BLOB, PRIMARY KEY (b, a))", []api.Stmt{{Kind: api.StCreate, Table: "t", Columns: []api.Column{{Name: "a", Type: api.KInt, NotNull: true}, {Name: "b", Type: api.KText}, {Name: "c", Type: api.KBlob}}, Key: []string{"b", "a"}}}},
		{"DROP TABLE t; DROP INDEX i", []api.Stmt{{Kind: api.StDrop, Table: "t"}, {Kind: api.StDropIndex, Name: "i"}}},
		{"CREATE INDEX i ON t (a); CREATE UNIQUE INDEX j ON t (a, b)", []api.Stmt{{Kind: api.StIndex, Name: "i", Table: "t", Key: []string{"a"}}, {Kind: api.StIndex, Name: "j", Table: "t", Unique: true, Key: []string{"a", "b"}}}},
		{"INSERT INTO t (a, b) VALUES (1, 'x'), (2)", []api.Stmt{{Kind: api.StInsert, Table: "t", Names: []string{"a", "b"}, Rows: [][]api.Expr{{num(1), txt("x")}, {num(2)}}}}},
		{"UPDATE t SET a = 1, b = a WHERE a", []api.Stmt{{Kind: api.StUpdate, Table: "t", Sets: []api.Set{{Name: "a", E: num(1)}, {Name: "b", E: a}}, Where: []api.Expr{a}}}},
		{"DELETE FROM t; DELETE FROM t WHERE a", []api.Stmt{{Kind: api.StDelete, Table: "t"}, {Kind: api.StDelete, Table: "t", Where: []api.Expr{a}}}},
		{"SELECT * FROM t", []api.Stmt{{Kind: api.StSelect, From: []api.Source{{Table: "t"}}, Limit: -1}}},
		{"SELECT a AS b, a FROM t AS u JOIN t ON a JOIN v AS w ON 1 WHERE a GROUP BY a, 1 HAVING a ORDER BY a DESC, a LIMIT 1073741824", []api.Stmt{{
			Kind: api.StSelect, Items: []api.Item{{E: a, As: "b"}, {E: a}},
			From:  []api.Source{{Table: "t", As: "u"}, {Table: "t", On: []api.Expr{a}}, {Table: "v", As: "w", On: []api.Expr{num(1)}}},
			Where: []api.Expr{a}, Group: []api.Expr{a, num(1)}, Having: []api.Expr{a}, Order: []api.Order{{E: a, Desc: true}, {E: a}}, Limit: 1 << 30,
		}}},
		{"SELECT a FROM t HAVING 1 LIMIT 0", []api.Stmt{{Kind: api.StSelect, Items: []api.Item{{E: a}}, From: []api.Source{{Table: "t"}}, Having: []api.Expr{num(1)}}}},
	} {
		l, spot := Script(k.s)
		if !reflect.DeepEqual(l, k.l) || spot != (api.Spot{}) {
			t.Errorf("%q: %v %v", k.s, l, spot)
		}
	}
}

func TestScriptWrong(t *testing.T) { // P14.1
	for _, k := range []struct {
		s  string
		e  api.Errno
		at int
	}{
		{";", api.ErrText, 0}, {"BEGIN;;", api.ErrText, 6}, {"BEGIN COMMIT", api.ErrText, 6}, {"a", api.ErrText, 0}, {"SELEC", api.ErrText, 0}, {"BEGIN; SELEC", api.ErrText, 7},
		{"SELECT * FROM t LIMIT 1073741825", api.ErrRange, 22}, {"SELECT * FROM t LIMIT 9223372036854775808", api.ErrRange, 22}, {"SELECT * FROM t LIMIT -1", api.ErrText, 22}, {"SELECT * FROM t LIMIT", api.ErrText, 21}, {"SELECT * FROM t LIMIT a", api.ErrText, 22},
		{"SELECT 9223372036854775808 FROM", api.ErrRange, 7}, {"SELECT * FROM", api.ErrText, 13}, {"SELECT FROM t", api.ErrText, 7}, {"SELECT *, a FROM t", api.ErrText, 8}, {"SELECT a, FROM t", api.ErrText, 10}, {"SELECT a b FROM t", api.ErrText, 9},
		{"SELECT * FROM t JOIN u", api.ErrText, 22}, {"SELECT * FROM t JOIN u WHERE", api.ErrText, 23}, {"SELECT * FROM t, u", api.ErrText, 15}, {"SELECT * FROM t ON a", api.ErrText, 16}, {"SELECT * FROM t GROUP a", api.ErrText, 22}, {"SELECT * FROM t ORDER BY a, b DESC c", api.ErrText, 35},
		{"SELECT * FROM t LIMIT 1 WHERE a", api.ErrText, 24}, {"SELECT * FROM t HAVING a GROUP BY b", api.ErrText, 25},
		{"CREATE t", api.ErrText, 7}, {"CREATE TABLE t", api.ErrText, 14}, {"CREATE TABLE t ()", api.ErrText, 16}, {"CREATE TABLE t (PRIMARY KEY (a))", api.ErrText, 16}, {"CREATE TABLE t (a INTEGER)", api.ErrText, 25}, {"CREATE TABLE t (a INTEGER,)", api.ErrText, 26},
		{"CREATE TABLE t (a INTEGER, PRIMARY", api.ErrText, 34}, {"CREATE TABLE t (a INTEGER, PRIMARY (a))", api.ErrText, 35}, {"CREATE TABLE t (a INTEGER, PRIMARY KEY (a), b TEXT)", api.ErrText, 42}, {"CREATE TABLE t (a, PRIMARY KEY (a))", api.ErrText, 17}, {"CREATE TABLE t (a INTEGER NULL, PRIMARY KEY (a))", api.ErrText, 26}, {"CREATE TABLE t (a INTEGER, PRIMARY KEY ())", api.ErrText, 40}, {"CREATE TABLE t (a INTEGER,", api.ErrText, 26},
		{"CREATE UNIQUE TABLE t", api.ErrText, 14}, {"CREATE INDEX i t (a)", api.ErrText, 15}, {"CREATE INDEX i ON t", api.ErrText, 19}, {"DROP t", api.ErrText, 5}, {"DROP UNIQUE INDEX i", api.ErrText, 5},
		{"INSERT INTO t VALUES (1)", api.ErrText, 14}, {"INSERT INTO t (a) VALUES", api.ErrText, 24}, {"INSERT INTO t (a) VALUES ()", api.ErrText, 26}, {"INSERT INTO t (a) VALUES (1),", api.ErrText, 29}, {"INSERT INTO t (a) VALUES (1) (2)", api.ErrText, 29}, {"INSERT t", api.ErrText, 7},
		{"UPDATE t a = 1", api.ErrText, 9}, {"UPDATE t SET a 1", api.ErrText, 15}, {"UPDATE t SET a = 1,", api.ErrText, 19}, {"UPDATE t SET t.a = 1", api.ErrText, 14}, {"DELETE t", api.ErrText, 7}, {"DELETE FROM t AS u", api.ErrText, 14},
		{"SAVEPOINT", api.ErrText, 9}, {"ROLLBACK s", api.ErrText, 9}, {"ROLLBACK TO", api.ErrText, 11}, {"RELEASE SAVEPOINT s", api.ErrText, 8},
		{strings.Repeat(" ", 4097), api.ErrLong, 4096}, {"BEGIN BEGIN 01", api.ErrText, 13},
	} {
		l, spot := Script(k.s)
		if l != nil || spot != (api.Spot{Err: k.e, At: k.at}) {
			t.Errorf("%q: %v %v", k.s, l, spot)
		}
	}
}

func TestPrintExpr(t *testing.T) { // P14.3
	a := col("a")
	for _, k := range []struct {
		x api.Expr
		s string
	}{
		{num(-5), "- 5"}, {op(api.ExNeg, num(5)), "- ( 5 )"}, {op(api.ExNeg, op(api.ExNeg, a)), "- ( - a )"}, {op(api.ExNeg, num(-5)), "- ( - 5 )"}, {num(-1 << 63), "- 9223372036854775808"},
		{op(api.ExNeg, txt("x")), "- ( 'x' )"}, {op(api.ExNeg, value(api.Value{})), "- ( NULL )"}, {op(api.ExNeg, op(api.ExCount)), "- COUNT ( * )"},
		{op(api.ExAdd, num(1), op(api.ExMul, a, num(-3))), "1 + ( a * - 3 )"}, {op(api.ExSub, num(-1), num(-2)), "- 1 - - 2"},
		{api.Expr{Op: api.ExColumn, Table: "t", Name: "a"}, "t . a"},
		{op(api.ExNot, op(api.ExIsNull, a)), "NOT ( a IS NULL )"}, {op(api.ExIsNull, op(api.ExAdd, a, a)), "( a + a ) IS NULL"},
		{op(api.ExCount), "COUNT ( * )"}, {op(api.ExCount, a), "COUNT ( a )"}, {op(api.ExSum, op(api.ExAdd, a, num(1))), "SUM ( a + 1 )"}, {op(api.ExMin, op(api.ExMax, a)), "MIN ( MAX ( a ) )"}, {op(api.ExMax, num(-1)), "MAX ( - 1 )"},
		{op(api.ExOr, op(api.ExAnd, a, a), op(api.ExNot, a)), "( a AND a ) OR ( NOT a )"}, {op(api.ExEq, op(api.ExEq, a, a), op(api.ExSum, a)), "( a = a ) = SUM ( a )"},
		{value(api.Value{Kind: api.KBlob, S: "\x00'"}), "x'0027'"}, {txt("it's"), "'it''s'"},
	} {
		if s, e := PrintExpr(k.x); s != k.s || e != api.OK {
			t.Errorf("%v: %q %d", k.x, s, e)
		}
	}
	long := op(api.ExJoin, txt(strings.Repeat("a", 1000)), txt(strings.Repeat("a", 1000)))
	deep := a
	for range 1 << 16 {
		deep = op(api.ExNot, deep)
	}
	for _, x := range []api.Expr{
		{}, {Op: 24}, {Op: 255, Kids: []api.Expr{a, a}}, op(api.ExNeg), op(api.ExNeg, a, a), op(api.ExAdd, a), op(api.ExAdd, a, a, a), op(api.ExSum), op(api.ExCount, a, a), op(api.ExNot),
		{Op: api.ExValue, V: api.Value{Kind: 4}}, {Op: api.ExValue, V: api.Value{N: 1}}, {Op: api.ExValue, V: api.Value{Kind: api.KInt, S: "x"}}, txt(strings.Repeat("a", 1001)), {Op: api.ExValue, Kids: []api.Expr{a}}, {Op: api.ExValue, Name: "a"}, {Op: api.ExValue, N: 1},
		col(""), col("A"), col("a.b"), col("a b"), col("NULL"), {Op: api.ExColumn, Table: "T", Name: "a"}, {Op: api.ExColumn, Name: "a", N: 1}, {Op: api.ExColumn, Name: "a", Kids: []api.Expr{a}}, {Op: api.ExColumn, Name: "a", V: api.Value{Kind: api.KInt}},
		{Op: api.ExNot, Name: "a", Kids: []api.Expr{a}}, {Op: api.ExNot, V: api.Value{N: 1}, Kids: []api.Expr{a}}, op(api.ExAdd, a, col("")), op(api.ExAdd, a, api.Expr{}),
		op(api.ExJoin, long, op(api.ExJoin, long, txt(strings.Repeat("b", 100)))), deep,
	} {
		if s, e := PrintExpr(x); s != "" || e != api.ErrArg {
			t.Errorf("%.60q %d", s, e)
		}
	}
	for n, e := range map[int]api.Errno{103: api.OK, 104: api.ErrArg} { // 4096 bytes, and one more
		x := op(api.ExJoin, long, op(api.ExJoin, txt(strings.Repeat("a", 1000)), op(api.ExJoin, txt(strings.Repeat("a", 955)), txt(strings.Repeat("a", n)))))
		if s, f := PrintExpr(x); f != e || e == api.OK && len(s) != api.MaxText {
			t.Error(n, len(s), f)
		}
	}
	wide := a
	for range 60 {
		wide = op(api.ExAdd, wide, wide)
	}
	if _, e := PrintExpr(wide); e != api.ErrArg {
		t.Error(e)
	}
}

func TestPrint(t *testing.T) { // P14.3
	for _, s := range []string{
		"CREATE TABLE t ( a INTEGER , PRIMARY KEY ( a ) )", "CREATE TABLE t ( a INTEGER NOT NULL , b TEXT , c BLOB , PRIMARY KEY ( b , a ) )", "DROP TABLE t",
		"CREATE INDEX i ON t ( a )", "CREATE UNIQUE INDEX i ON t ( a , b )", "DROP INDEX i", "INSERT INTO t ( a , b ) VALUES ( 1 , 'x' ) , ( - 2 )",
		"UPDATE t SET a = 1 , b = a WHERE a", "UPDATE t SET a = a + 1", "DELETE FROM t", "DELETE FROM t WHERE a = 1", "SELECT * FROM t", "SELECT a AS b , 1 FROM t AS u JOIN t ON a JOIN v AS w ON 1 WHERE a GROUP BY a , 1 HAVING a ORDER BY a DESC , a LIMIT 7",
		"SELECT COUNT ( * ) FROM t LIMIT 0", "BEGIN", "COMMIT", "ROLLBACK", "SAVEPOINT s", "ROLLBACK TO s", "RELEASE s",
	} {
		l, spot := Script(s)
		if len(l) != 1 || spot.Err != api.OK {
			t.Fatal(s, spot)
		}
		if got, e := Print(l[0]); got != s || e != api.OK {
			t.Errorf("%q: %q %d", s, got, e)
		}
	}
	if l, _ := Script("SELECT a FROM t WHERE b IS NOT NULL"); true {
		if got, e := Print(l[0]); got != "SELECT a FROM t WHERE NOT ( b IS NULL )" || e != api.OK {
			t.Error(got, e)
		}
	}
}

func TestPrintWrong(t *testing.T) { // P14.3
	a := col("a")
	one := []api.Expr{a}
	columns := []api.Column{{Name: "a", Type: api.KInt}}
	from := []api.Source{{Table: "t"}}
	for i, s := range []api.Stmt{
		{}, {Kind: 15}, {Kind: api.StBegin, Table: "t"}, {Kind: api.StBegin, Limit: -1}, {Kind: api.StCommit, Name: "s"}, {Kind: api.StSave}, {Kind: api.StSave, Name: "S"}, {Kind: api.StSave, Name: "s ; BEGIN"}, {Kind: api.StRollback, Name: "s"},
		{Kind: api.StDrop}, {Kind: api.StDrop, Table: "t", Key: []string{"a"}}, {Kind: api.StDropIndex, Table: "i"},
		{Kind: api.StCreate, Table: "t", Columns: columns}, {Kind: api.StCreate, Table: "t", Key: []string{"a"}}, {Kind: api.StCreate, Table: "t", Columns: []api.Column{{Name: "a"}}, Key: []string{"a"}}, {Kind: api.StCreate, Table: "t", Columns: []api.Column{{Name: "a", Type: 4}}, Key: []string{"a"}}, {Kind: api.StCreate, Table: "t", Columns: columns, Key: []string{""}}, {Kind: api.StCreate, Table: "t", Columns: columns, Key: []string{"a"}, Unique: true},
		{Kind: api.StIndex, Table: "t", Name: "i"}, {Kind: api.StIndex, Table: "t", Key: []string{"a"}},
		{Kind: api.StInsert, Table: "t", Names: []string{"a"}}, {Kind: api.StInsert, Table: "t", Rows: [][]api.Expr{one}}, {Kind: api.StInsert, Table: "t", Names: []string{"a"}, Rows: [][]api.Expr{{}}}, {Kind: api.StInsert, Table: "t", Names: []string{"a"}, Rows: [][]api.Expr{one}, Where: one},
		{Kind: api.StUpdate, Table: "t"}, {Kind: api.StUpdate, Table: "t", Sets: []api.Set{{Name: "a"}}}, {Kind: api.StUpdate, Table: "t", Sets: []api.Set{{Name: "a", E: a}}, Where: []api.Expr{a, a}},
		{Kind: api.StDelete, Table: "t", Where: []api.Expr{a, a}}, {Kind: api.StDelete, Table: "t", From: from},
		{Kind: api.StSelect, Limit: -1}, {Kind: api.StSelect, From: from, Limit: -2}, {Kind: api.StSelect, From: from, Limit: 1<<30 + 1}, {Kind: api.StSelect, From: []api.Source{{Table: "t", On: one}}, Limit: -1}, {Kind: api.StSelect, From: []api.Source{{Table: "t"}, {Table: "u"}}, Limit: -1}, {Kind: api.StSelect, From: []api.Source{{Table: "t"}, {Table: "u", On: []api.Expr{a, a}}}, Limit: -1},
		{Kind: api.StSelect, From: from, Limit: -1, Table: "t"}, {Kind: api.StSelect, From: from, Limit: -1, Having: []api.Expr{a, a}}, {Kind: api.StSelect, From: from, Limit: -1, Items: []api.Item{{E: a, As: "A"}}}, {Kind: api.StSelect, From: from, Limit: -1, Order: []api.Order{{}}}, {Kind: api.StSelect, From: from, Limit: -1, Where: []api.Expr{{Op: api.ExColumn, Name: "a", N: 3}}},
	} {
		if got, e := Print(s); got != "" || e != api.ErrArg {
			t.Errorf("%d: %q %d", i, got, e)
		}
	}
}

func TestSame(t *testing.T) { // P14.4
	full := func() api.Stmt {
		l, _ := Script("SELECT a AS b FROM t AS u JOIN t ON 1 WHERE a GROUP BY a HAVING a ORDER BY a DESC")
		s := l[0]
		s.Columns, s.Key, s.Names, s.Rows, s.Sets = []api.Column{{Name: "a"}}, []string{"k"}, []string{"n"}, [][]api.Expr{{col("x")}}, []api.Set{{Name: "a", E: col("y")}}
		return s
	}
	if !Same(full(), full()) || !Same(api.Stmt{}, api.Stmt{Key: []string{}, Rows: [][]api.Expr{}}) || !SameExpr(api.Expr{}, api.Expr{Kids: []api.Expr{}}) {
		t.Error("the same")
	}
	for i, change := range []func(s *api.Stmt){
		func(s *api.Stmt) { s.Kind++ }, func(s *api.Stmt) { s.Table = "x" }, func(s *api.Stmt) { s.Name = "x" }, func(s *api.Stmt) { s.Unique = true }, func(s *api.Stmt) { s.Limit = 1 },
		func(s *api.Stmt) { s.Columns[0].NotNull = true }, func(s *api.Stmt) { s.Key[0] = "x" }, func(s *api.Stmt) { s.Names = nil }, func(s *api.Stmt) { s.Rows[0][0].N = 1 }, func(s *api.Stmt) { s.Rows[0] = nil },
		func(s *api.Stmt) { s.Sets[0].Name = "x" }, func(s *api.Stmt) { s.Sets[0].E = col("x") }, func(s *api.Stmt) { s.Items[0].As = "" }, func(s *api.Stmt) { s.Items[0].E.Table = "x" },
		func(s *api.Stmt) { s.From[0].As = "" }, func(s *api.Stmt) { s.From[1].Table = "x" }, func(s *api.Stmt) { s.From[1].On = nil }, func(s *api.Stmt) { s.Where[0].V.N = 1 }, func(s *api.Stmt) { s.Group = append(s.Group, col("a")) },
		func(s *api.Stmt) { s.Having[0].Op = 3 }, func(s *api.Stmt) { s.Order[0].Desc = false }, func(s *api.Stmt) { s.Order[0].E.Name = "x" }, func(s *api.Stmt) { s.Where[0].Kids = []api.Expr{col("a")} },
	} {
		a, b := full(), full()
		change(&b)
		if Same(a, b) || Same(b, a) {
			t.Error(i)
		}
	}
}
