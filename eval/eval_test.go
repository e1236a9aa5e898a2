package eval

import (
	"math"
	"math/big"
	"math/rand"
	"strings"
	"testing"

	"counterfoil/api"
	"counterfoil/value"
)

func num(n int64) api.Value  { return api.Value{Kind: api.KInt, N: n} }
func txt(s string) api.Value { return api.Value{Kind: api.KText, S: s} }

func is(v api.Value) api.Expr { return api.Expr{Op: api.ExValue, V: v} }
func n(i int64) api.Expr      { return is(num(i)) }
func s(t string) api.Expr     { return is(txt(t)) }
func col(i int) api.Expr      { return api.Expr{Op: api.ExColumn, N: i} }

func op(op uint8, kids ...api.Expr) api.Expr { return api.Expr{Op: op, Kids: kids} }

var none = is(api.Value{})

const least, most = math.MinInt64, math.MaxInt64

func TestEval(t *testing.T) { // P15.2
	blob := is(api.Value{Kind: api.KBlob, S: "a"})
	long := strings.Repeat("a", 600)
	for _, c := range []struct {
		x api.Expr
		v api.Value
		e api.Errno
	}{
		{n(7), num(7), api.OK}, {none, api.Value{}, api.OK},
		{op(api.ExAdd, n(most), n(1)), api.Value{}, api.ErrOver}, {op(api.ExAdd, n(least), n(-1)), api.Value{}, api.ErrOver}, {op(api.ExAdd, n(most), n(least)), num(-1), api.OK},
		{op(api.ExSub, n(least), n(1)), api.Value{}, api.ErrOver}, {op(api.ExSub, n(0), n(least)), api.Value{}, api.ErrOver}, {op(api.ExSub, n(-1), n(least)), num(most), api.OK},
		{op(api.ExNeg, n(least)), api.Value{}, api.ErrOver}, {op(api.ExNeg, n(most)), num(-most), api.OK}, {op(api.ExNeg, none), api.Value{}, api.OK}, {op(api.ExNeg, s("a")), api.Value{}, api.ErrType},
		{op(api.ExMul, n(least), n(-1)), api.Value{}, api.ErrOver}, {op(api.ExMul, n(1<<32), n(1<<31)), api.Value{}, api.ErrOver}, {op(api.ExMul, n(-1<<32), n(1<<31)), num(least), api.OK}, {op(api.ExMul, n(-3), n(5)), num(-15), api.OK},
		{op(api.ExDiv, n(7), n(0)), api.Value{}, api.OK}, {op(api.ExMod, n(7), n(0)), api.Value{}, api.OK}, {op(api.ExDiv, n(-7), n(2)), num(-3), api.OK}, {op(api.ExMod, n(-7), n(2)), num(-1), api.OK}, {op(api.ExMod, n(7), n(-2)), num(1), api.OK},
		{op(api.ExDiv, n(least), n(-1)), api.Value{}, api.ErrOver}, {op(api.ExMod, n(least), n(-1)), num(0), api.OK}, {op(api.ExDiv, none, n(0)), api.Value{}, api.OK}, {op(api.ExDiv, s("a"), n(0)), api.Value{}, api.ErrType},
		{op(api.ExAnd, n(0), none), num(0), api.OK}, {op(api.ExAnd, none, n(0)), num(0), api.OK}, {op(api.ExAnd, n(1), none), api.Value{}, api.OK}, {op(api.ExAnd, none, none), api.Value{}, api.OK}, {op(api.ExAnd, n(2), n(-1)), num(1), api.OK}, {op(api.ExAnd, n(2), n(0)), num(0), api.OK},
		{op(api.ExOr, n(1), none), num(1), api.OK}, {op(api.ExOr, none, n(5)), num(1), api.OK}, {op(api.ExOr, n(0), none), api.Value{}, api.OK}, {op(api.ExOr, none, none), api.Value{}, api.OK}, {op(api.ExOr, n(0), n(0)), num(0), api.OK},
		{op(api.ExAnd, n(0), s("a")), api.Value{}, api.ErrType}, {op(api.ExOr, n(1), blob), api.Value{}, api.ErrType}, {op(api.ExAnd, n(0), op(api.ExNeg, n(least))), api.Value{}, api.ErrOver},
		{op(api.ExNot, none), api.Value{}, api.OK}, {op(api.ExNot, n(-7)), num(0), api.OK}, {op(api.ExNot, n(0)), num(1), api.OK}, {op(api.ExNot, s("")), api.Value{}, api.ErrType},
		{op(api.ExIsNull, none), num(1), api.OK}, {op(api.ExIsNull, n(0)), num(0), api.OK}, {op(api.ExIsNull, s("")), num(0), api.OK}, {op(api.ExIsNull, blob), num(0), api.OK}, {op(api.ExIsNull, op(api.ExAdd, n(1), s("a"))), api.Value{}, api.ErrType},
		{op(api.ExEq, n(1), s("a")), api.Value{}, api.ErrType}, {op(api.ExLt, s("a"), blob), api.Value{}, api.ErrType}, {op(api.ExLt, s("a"), s("b")), num(1), api.OK}, {op(api.ExEq, none, n(1)), api.Value{}, api.OK}, {op(api.ExNe, s("a"), none), api.Value{}, api.OK}, {op(api.ExEq, none, none), api.Value{}, api.OK},
		{op(api.ExJoin, s("a"), s("b")), txt("ab"), api.OK}, {op(api.ExJoin, s("a"), none), api.Value{}, api.OK}, {op(api.ExJoin, none, blob), api.Value{}, api.ErrType}, {op(api.ExJoin, n(1), s("a")), api.Value{}, api.ErrType}, {op(api.ExJoin, s(long), s(long)), api.Value{}, api.ErrLong}, {op(api.ExJoin, s(long), s(long[:400])), txt(strings.Repeat("a", 1000)), api.OK},
		{op(api.ExAdd, n(1), s("a")), api.Value{}, api.ErrType}, {op(api.ExAdd, op(api.ExNeg, n(least)), op(api.ExNeg, s("a"))), api.Value{}, api.ErrOver}, {op(api.ExAdd, op(api.ExNeg, s("a")), op(api.ExNeg, n(least))), api.Value{}, api.ErrType},
	} {
		if v, e := Eval(c.x, nil); v != c.v || e != c.e {
			t.Errorf("%v: %v %d", c.x, v, e)
		}
	}
	row := []api.Value{num(4), txt("x"), {}}
	for i, v := range row {
		if got, e := Eval(api.Expr{Op: api.ExColumn, N: i, Table: "any", Name: "thing"}, row); got != v || e != api.OK {
			t.Error(i, got, e)
		}
	}
}

// refused: expressions that may not be for two columns.
func refused() []api.Expr {
	return []api.Expr{
		{}, {Op: 24}, {Op: 255, Kids: []api.Expr{n(1), n(1)}}, col(2), col(-1), op(api.ExNeg), op(api.ExNeg, n(1), n(1)), op(api.ExAdd, n(1)), op(api.ExAdd, n(1), n(1), n(1)), op(api.ExIsNull), op(api.ExNot),
		op(api.ExValue, n(1)), op(api.ExColumn, n(1)), op(api.ExCount, n(1), n(1)), op(api.ExSum), op(api.ExMin, n(1), n(1)), op(api.ExMax), is(api.Value{Kind: 4}), is(api.Value{N: 1}), s(strings.Repeat("a", 1001)),
		op(api.ExAdd, n(1), col(2)), op(api.ExAdd, op(api.ExNeg, s("a")), col(2)), op(api.ExSum, op(api.ExNeg, col(9))),
	}
}

func TestRefused(t *testing.T) { // P15.1 to P15.3
	row := []api.Value{{}, {}}
	for i, x := range refused() {
		if k, e := Type(x, []uint8{1, 1}, true); k != 0 || e != api.ErrArg {
			t.Error(i, k, e)
		}
		if v, e := Eval(x, row); v != (api.Value{}) || e != api.ErrArg {
			t.Error(i, v, e)
		}
		if v, e := Fold(x, [][]api.Value{row}, 2); v != (api.Value{}) || e != api.ErrArg {
			t.Error(i, v, e)
		}
	}
	count := op(api.ExCount)
	for _, x := range []api.Expr{count, op(api.ExAdd, n(1), op(api.ExSum, n(1))), op(api.ExAdd, op(api.ExNeg, s("a")), count)} {
		if _, e := Eval(x, nil); e != api.ErrArg {
			t.Error(x, e)
		}
	}
	for _, x := range []api.Expr{op(api.ExSum, count), op(api.ExCount, op(api.ExAdd, n(1), op(api.ExMin, n(1)))), op(api.ExMax, op(api.ExMax, n(1)))} {
		if _, e := Fold(x, nil, 0); e != api.ErrArg {
			t.Error(x, e)
		}
	}
	for _, rows := range [][][]api.Value{{row, row[1:]}, {nil}, {append(row, num(1))}} {
		if _, e := Fold(n(1), rows, 2); e != api.ErrArg {
			t.Error(rows, e)
		}
	}
	if _, e := Fold(n(1), [][]api.Value{nil}, -1); e != api.ErrArg {
		t.Error(e)
	}
	if _, e := Fold(col(-1), nil, -5); e != api.ErrArg {
		t.Error(e)
	}
}

func TestType(t *testing.T) { // P15.1
	columns := []uint8{api.KInt, api.KText, api.KBlob, api.KNull}
	count := op(api.ExCount)
	for _, c := range []struct {
		x     api.Expr
		group bool
		k     uint8
		e     api.Errno
	}{
		{n(1), false, api.KInt, api.OK}, {none, false, api.KNull, api.OK}, {s("a"), false, api.KText, api.OK}, {col(0), false, api.KInt, api.OK}, {col(2), false, api.KBlob, api.OK}, {col(3), false, api.KNull, api.OK},
		{op(api.ExNeg, col(0)), false, api.KInt, api.OK}, {op(api.ExNeg, none), false, api.KInt, api.OK}, {op(api.ExNeg, col(1)), false, 0, api.ErrType}, {op(api.ExNot, col(2)), false, 0, api.ErrType}, {op(api.ExIsNull, col(1)), false, api.KInt, api.OK}, {op(api.ExIsNull, col(2)), false, api.KInt, api.OK},
		{op(api.ExAdd, col(0), col(3)), false, api.KInt, api.OK}, {op(api.ExMod, col(0), col(1)), false, 0, api.ErrType}, {op(api.ExJoin, col(1), none), false, api.KText, api.OK}, {op(api.ExJoin, none, none), false, api.KText, api.OK}, {op(api.ExJoin, col(1), col(2)), false, 0, api.ErrType}, {op(api.ExJoin, col(0), col(1)), false, 0, api.ErrType},
		{op(api.ExEq, col(1), col(1)), false, api.KInt, api.OK}, {op(api.ExEq, col(1), col(2)), false, 0, api.ErrType}, {op(api.ExGe, none, col(2)), false, api.KInt, api.OK}, {op(api.ExLt, col(2), none), false, api.KInt, api.OK}, {op(api.ExAnd, col(0), none), false, api.KInt, api.OK}, {op(api.ExOr, col(1), none), false, 0, api.ErrType},
		{count, true, api.KInt, api.OK}, {op(api.ExCount, col(2)), true, api.KInt, api.OK}, {op(api.ExSum, col(0)), true, api.KInt, api.OK}, {op(api.ExSum, none), true, api.KInt, api.OK}, {op(api.ExSum, col(1)), true, 0, api.ErrType}, {op(api.ExMin, col(1)), true, api.KText, api.OK}, {op(api.ExMax, col(2)), true, api.KBlob, api.OK}, {op(api.ExMax, none), true, api.KNull, api.OK},
		{count, false, 0, api.ErrGroup}, {op(api.ExSum, count), true, 0, api.ErrGroup}, {op(api.ExAdd, count, n(1)), true, api.KInt, api.OK},
		{op(api.ExSum, op(api.ExNeg, col(1))), false, 0, api.ErrGroup}, {op(api.ExSum, op(api.ExNeg, col(1))), true, 0, api.ErrType}, // ahead of what the kids are
		{op(api.ExAdd, op(api.ExNeg, col(1)), op(api.ExSum, count)), true, 0, api.ErrType}, {op(api.ExAdd, op(api.ExSum, count), op(api.ExNeg, col(1))), true, 0, api.ErrGroup},
		{op(api.ExAdd, col(1), count), false, 0, api.ErrGroup}, // kids first
		{op(api.ExMin, op(api.ExAdd, op(api.ExNeg, col(1)), count)), true, 0, api.ErrType},
	} {
		if k, e := Type(c.x, columns, c.group); k != c.k || e != c.e {
			t.Errorf("%v: %d %d", c.x, k, e)
		}
	}
}

func TestFold(t *testing.T) { // P15.3
	rows := [][]api.Value{{num(1), txt("b")}, {{}, txt("a")}, {num(2), {}}}
	bad := op(api.ExNeg, col(1))
	for _, c := range []struct {
		x    api.Expr
		rows [][]api.Value
		v    api.Value
		e    api.Errno
	}{
		{op(api.ExSum, col(0)), rows, num(3), api.OK}, {op(api.ExSum, col(0)), nil, api.Value{}, api.OK}, {op(api.ExCount), nil, num(0), api.OK}, {op(api.ExCount), rows, num(3), api.OK}, {op(api.ExCount, col(0)), rows, num(2), api.OK}, {op(api.ExCount, col(0)), nil, num(0), api.OK},
		{op(api.ExMin, col(1)), rows, txt("a"), api.OK}, {op(api.ExMax, col(1)), rows, txt("b"), api.OK}, {op(api.ExMax, none), rows, api.Value{}, api.OK}, {op(api.ExMin, col(0)), nil, api.Value{}, api.OK},
		{col(1), rows, txt("b"), api.OK}, {col(1), nil, api.Value{}, api.OK}, {op(api.ExAdd, col(0), op(api.ExCount)), rows, num(4), api.OK}, {n(5), nil, num(5), api.OK},
		{op(api.ExSum, col(1)), rows, api.Value{}, api.ErrType}, {op(api.ExCount, bad), rows, api.Value{}, api.ErrType}, {op(api.ExCount, bad), nil, num(0), api.OK},
		{op(api.ExSum, col(0)), [][]api.Value{{num(most), {}}, {num(most), {}}, {num(least), {}}, {num(least), {}}}, num(-2), api.OK},
		{op(api.ExSum, col(0)), [][]api.Value{{num(most), {}}, {num(1), {}}}, api.Value{}, api.ErrOver}, {op(api.ExSum, col(0)), [][]api.Value{{num(least), {}}, {num(-1), {}}}, api.Value{}, api.ErrOver},
		{op(api.ExSum, op(api.ExNeg, col(0))), [][]api.Value{{num(1), {}}, {num(least), {}}, {txt("a"), {}}}, api.Value{}, api.ErrOver}, // of the first row that has one
		{op(api.ExSum, op(api.ExIsNull, col(0))), rows, num(1), api.OK},
		{op(api.ExMin, col(0)), [][]api.Value{{txt("a"), {}}, {num(9), {}}}, num(9), api.OK}, {op(api.ExMax, col(0)), [][]api.Value{{txt("a"), {}}, {num(9), {}}}, txt("a"), api.OK},
	} {
		if v, e := Fold(c.x, c.rows, 2); v != c.v || e != c.e {
			t.Errorf("%v: %v %d", c.x, v, e)
		}
	}
}

func TestTrue(t *testing.T) { // P15.4
	for v, want := range map[api.Value]bool{num(1): true, num(-1): true, num(0): false, {}: false, txt("1"): false, {Kind: api.KBlob, S: "1"}: false, {N: 1}: false} {
		if True(v) != want {
			t.Error(v)
		}
	}
}

// slow: what x comes to, by the words of the chapter alone, with numbers of any size.
func slow(x api.Expr, row []api.Value, rows [][]api.Value) (api.Value, api.Errno) {
	switch x.Op {
	case api.ExValue:
		return x.V, api.OK
	case api.ExColumn:
		if row == nil {
			return api.Value{}, api.OK
		}
		return row[x.N], api.OK
	case api.ExCount, api.ExSum, api.ExMin, api.ExMax:
		return slowGroup(x, rows)
	}
	var k []api.Value
	null, zero, yes := false, false, false
	for _, kid := range x.Kids {
		v, e := slow(kid, row, rows)
		if e != api.OK {
			return api.Value{}, e
		}
		null = null || v.Kind == 0
		zero = zero || v == num(0)
		yes = yes || v.Kind == api.KInt && v.N != 0
		k = append(k, v)
	}
	bit := func(b bool) (api.Value, api.Errno) {
		if b {
			return num(1), api.OK
		}
		return num(0), api.OK
	}
	switch {
	case x.Op == api.ExIsNull:
		return bit(null)
	case x.Op >= api.ExEq && x.Op <= api.ExGe:
		if !null && k[0].Kind != k[1].Kind {
			return api.Value{}, api.ErrType
		}
		if null {
			return api.Value{}, api.OK
		}
		c := value.Compare(k[0], k[1])
		return bit(map[uint8]bool{api.ExEq: c == 0, api.ExNe: c != 0, api.ExLt: c < 0, api.ExLe: c <= 0, api.ExGt: c > 0, api.ExGe: c >= 0}[x.Op])
	}
	want := api.KInt
	if x.Op == api.ExJoin {
		want = api.KText
	}
	for _, v := range k {
		if v.Kind != 0 && v.Kind != want {
			return api.Value{}, api.ErrType
		}
	}
	switch {
	case x.Op == api.ExAnd && zero:
		return bit(false)
	case x.Op == api.ExOr && yes:
		return bit(true)
	case null:
		return api.Value{}, api.OK
	case x.Op == api.ExAnd:
		return bit(true)
	case x.Op == api.ExOr:
		return bit(false)
	case x.Op == api.ExNot:
		return bit(zero)
	case x.Op == api.ExJoin:
		if len(k[0].S+k[1].S) > 1000 {
			return api.Value{}, api.ErrLong
		}
		return txt(k[0].S + k[1].S), api.OK
	}
	a, b := big.NewInt(k[0].N), big.NewInt(k[len(k)-1].N)
	z := new(big.Int)
	switch x.Op {
	case api.ExNeg:
		z.Neg(a)
	case api.ExAdd:
		z.Add(a, b)
	case api.ExSub:
		z.Sub(a, b)
	case api.ExMul:
		z.Mul(a, b)
	default:
		if b.Sign() == 0 {
			return api.Value{}, api.OK
		}
		if z.Quo(a, b); x.Op == api.ExMod {
			z.Rem(a, b)
		}
	}
	return small(z)
}

func small(z *big.Int) (api.Value, api.Errno) {
	if !z.IsInt64() {
		return api.Value{}, api.ErrOver
	}
	return num(z.Int64()), api.OK
}

func slowGroup(x api.Expr, rows [][]api.Value) (api.Value, api.Errno) {
	count, best, sum, ints := 0, api.Value{}, new(big.Int), true
	for _, row := range rows {
		v := num(0)
		if len(x.Kids) > 0 {
			var e api.Errno
			if v, e = slow(x.Kids[0], row, nil); e != api.OK {
				return api.Value{}, e
			}
		}
		if v.Kind == 0 {
			continue
		}
		ints = ints && v.Kind == api.KInt
		sum.Add(sum, big.NewInt(v.N))
		c := value.Compare(v, best)
		if count++; count == 1 || x.Op == api.ExMin && c < 0 || x.Op == api.ExMax && c > 0 {
			best = v
		}
	}
	switch {
	case x.Op == api.ExCount:
		return num(int64(count)), api.OK
	case count == 0 || x.Op != api.ExSum:
		return best, api.OK
	case !ints:
		return api.Value{}, api.ErrType
	}
	return small(sum)
}

// random: an expression for three columns; with group perhaps one told of a group.
func random(r *rand.Rand, depth int, group bool) api.Expr {
	if group && r.Intn(3) == 0 {
		o := []uint8{api.ExCount, api.ExSum, api.ExMin, api.ExMax}[r.Intn(4)]
		if o == api.ExCount && r.Intn(2) == 0 {
			return op(o)
		}
		return op(o, random(r, depth-1, false))
	}
	if depth <= 0 || r.Intn(5) == 0 {
		if r.Intn(2) == 0 {
			return col(r.Intn(3))
		}
		return is(some(r, uint8(r.Intn(4))))
	}
	o := uint8(3 + r.Intn(17))
	if o <= api.ExIsNull {
		return op(o, random(r, depth-1, group))
	}
	return op(o, random(r, depth-1, group), random(r, depth-1, group))
}

// some: null, or a value of that kind.
func some(r *rand.Rand, kind uint8) api.Value {
	if kind == 0 || r.Intn(5) == 0 {
		return api.Value{}
	}
	if kind == api.KInt {
		return num([]int64{0, 1, -1, 2, least, most, 1 << 32, r.Int63() >> r.Intn(63)}[r.Intn(8)])
	}
	return api.Value{Kind: kind, S: strings.Repeat("a", []int{0, 1, 600}[r.Intn(3)])}
}

func TestAgainstModel(t *testing.T) { // P15.2, P15.3, P15.5, P15.6
	r := rand.New(rand.NewSource(19))
	typed := 0
	for range 60000 {
		group := r.Intn(2) == 0
		x := random(r, 1+r.Intn(4), group)
		columns := []uint8{uint8(r.Intn(4)), uint8(r.Intn(4)), uint8(r.Intn(4))}
		var rows [][]api.Value
		for range r.Intn(4) {
			rows = append(rows, []api.Value{some(r, columns[0]), some(r, columns[1]), some(r, columns[2])})
		}
		var first []api.Value
		if len(rows) > 0 {
			first = rows[0]
		}
		var v api.Value
		var e api.Errno
		if group {
			v, e = Fold(x, rows, 3)
		} else if first == nil {
			continue
		} else {
			v, e = Eval(x, first)
		}
		if w, f := slow(x, first, rows); v != w || e != f {
			t.Fatalf("%v: %v %d, not %v %d", x, v, e, w, f)
		}
		if k, f := Type(x, columns, group); f == api.OK {
			typed++
			if e == api.ErrType || e == api.ErrArg || v.Kind != api.KNull && v.Kind != k {
				t.Fatalf("%v: %v %d of kind %d", x, v, e, k)
			}
		}
		if group && x.Op >= api.ExCount && len(x.Kids) == 1 && x.Kids[0].Op == api.ExColumn {
			r.Shuffle(len(rows), func(i, j int) { rows[i], rows[j] = rows[j], rows[i] })
			if w, f := Fold(x, rows, 3); v != w || e != f {
				t.Fatal("the order of rows")
			}
		}
	}
	if typed < 5000 {
		t.Error("too few:", typed)
	}
}
