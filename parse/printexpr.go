package parse

import "counterfoil/api"

// between are the links between two expressions.
var between = [...]link{
	{api.TokSign, "+", api.ExAdd}, {api.TokSign, "-", api.ExSub}, {api.TokSign, "*", api.ExMul}, {api.TokSign, "/", api.ExDiv},
	{api.TokSign, "%", api.ExMod}, {api.TokSign, "||", api.ExJoin}, {api.TokSign, "=", api.ExEq}, {api.TokSign, "<>", api.ExNe},
	{api.TokSign, "<", api.ExLt}, {api.TokSign, "<=", api.ExLe}, {api.TokSign, ">", api.ExGt}, {api.TokSign, ">=", api.ExGe},
	{api.TokWord, "AND", api.ExAnd}, {api.TokWord, "OR", api.ExOr},
}

// op: the sign or word that makes op.
func (w *writer) op(op uint8) {
	for _, k := range between {
		if k.op == op {
			w.put(k.kind, k.text, 0)
			return
		}
	}
	for _, k := range ofGroups {
		if k.op == op {
			w.put(k.kind, k.text, 0)
			return
		}
	}
	w.bad = true
}

// expr: an expression. What may not be need not be told apart here: it is not read as the same again.
func (w *writer) expr(x api.Expr) {
	if w.ended() {
		return
	}
	switch kids := len(x.Kids); {
	case x.Op == api.ExValue && kids == 0:
		w.value(x.V)
	case x.Op == api.ExColumn && kids == 0:
		if x.Table != "" {
			w.name(x.Table)
			w.sign(".")
		}
		w.name(x.Name)
	case x.Op == api.ExCount && kids == 0:
		w.words("COUNT")
		w.brackets(func() { w.sign("*") })
	case kids == 1:
		w.single(x)
	case kids == 2:
		w.kid(x.Kids[0])
		w.op(x.Op)
		w.kid(x.Kids[1])
	default:
		w.bad = true
	}
}

// single: an expression with one kid.
func (w *writer) single(x api.Expr) {
	kid := x.Kids[0]
	switch x.Op {
	case api.ExNeg:
		w.sign("-")
		if kid.Op == api.ExValue { // without brackets it would be a number below 0
			w.brackets(func() { w.expr(kid) })
			return
		}
		w.kid(kid)
	case api.ExNot:
		w.words("NOT")
		w.kid(kid)
	case api.ExIsNull:
		w.kid(kid)
		w.words("IS NULL")
	default:
		w.op(x.Op)
		w.brackets(func() { w.expr(kid) })
	}
}

// kid: an expression within another one.
func (w *writer) kid(x api.Expr) {
	switch x.Op {
	case api.ExValue, api.ExColumn, api.ExCount, api.ExSum, api.ExMin, api.ExMax:
		w.expr(x)
	default:
		w.brackets(func() { w.expr(x) })
	}
}

func (w *writer) value(v api.Value) {
	switch {
	case v.Kind == api.KNull:
		w.words("NULL")
	case v.Kind == api.KInt && v.N < 0:
		w.sign("-")
		w.put(api.TokInt, "", uint64(-v.N))
	case v.Kind == api.KInt:
		w.put(api.TokInt, "", uint64(v.N))
	case v.Kind == api.KText:
		w.put(api.TokText, v.S, 0)
	case v.Kind == api.KBlob:
		w.put(api.TokBlob, v.S, 0)
	default:
		w.bad = true
	}
}
