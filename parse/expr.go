package parse

import "counterfoil/api"

// link is a sign or word between two expressions, and what it makes of them.
type link struct {
	kind uint8
	text string
	op   uint8
}

// chain: what one takes, and, as long as such links follow, what they make of it, from the left.
func (p *parser) chain(one func() api.Expr, links ...link) api.Expr {
	x := one()
chain:
	for {
		for _, k := range links {
			if p.is(k.kind, k.text) {
				x = api.Expr{Op: k.op, Kids: []api.Expr{x, one()}}
				continue chain
			}
		}
		return x
	}
}

func (p *parser) or() api.Expr { return p.chain(p.and, link{api.TokWord, "OR", api.ExOr}) }

func (p *parser) and() api.Expr { return p.chain(p.not, link{api.TokWord, "AND", api.ExAnd}) }

func (p *parser) not() api.Expr {
	if p.word("NOT") {
		return api.Expr{Op: api.ExNot, Kids: []api.Expr{p.not()}}
	}
	return p.comparison()
}

// comparison: a sum, or two that are compared, or one and IS NULL.
func (p *parser) comparison() api.Expr {
	x := p.sum()
	for _, k := range compared {
		if p.sign(k.text) {
			return api.Expr{Op: k.op, Kids: []api.Expr{x, p.sum()}}
		}
	}
	if !p.word("IS") {
		return x
	}
	not := p.word("NOT")
	p.words("NULL")
	x = api.Expr{Op: api.ExIsNull, Kids: []api.Expr{x}}
	if not {
		x = api.Expr{Op: api.ExNot, Kids: []api.Expr{x}}
	}
	return x
}

// compared are the links of comparisons.
var compared = [...]link{
	{api.TokSign, "=", api.ExEq}, {api.TokSign, "<>", api.ExNe}, {api.TokSign, "<", api.ExLt},
	{api.TokSign, "<=", api.ExLe}, {api.TokSign, ">", api.ExGt}, {api.TokSign, ">=", api.ExGe},
}

func (p *parser) sum() api.Expr { return p.chain(p.added, link{api.TokSign, "||", api.ExJoin}) }

func (p *parser) added() api.Expr {
	return p.chain(p.product, link{api.TokSign, "+", api.ExAdd}, link{api.TokSign, "-", api.ExSub})
}

func (p *parser) product() api.Expr {
	return p.chain(p.negative, link{api.TokSign, "*", api.ExMul}, link{api.TokSign, "/", api.ExDiv}, link{api.TokSign, "%", api.ExMod})
}

func (p *parser) negative() api.Expr {
	if !p.sign("-") {
		return p.single()
	}
	if t := p.next(); t.Kind == api.TokInt {
		p.at++
		return value(api.Value{Kind: api.KInt, N: -int64(t.N)})
	}
	return api.Expr{Op: api.ExNeg, Kids: []api.Expr{p.negative()}}
}

// value: the expression that is a value.
func value(v api.Value) api.Expr { return api.Expr{Op: api.ExValue, V: v} }

// single: a value, a column, an expression in brackets, or one of a group.
func (p *parser) single() api.Expr {
	switch t := p.next(); {
	case t.Kind == api.TokInt:
		return p.number(t)
	case t.Kind == api.TokText:
		p.at++
		return value(api.Value{Kind: api.KText, S: t.Text})
	case t.Kind == api.TokBlob:
		p.at++
		return value(api.Value{Kind: api.KBlob, S: t.Text})
	case t.Kind == api.TokName:
		return p.column()
	case p.word("NULL"):
		return value(api.Value{})
	case p.sign("("):
		x := p.or()
		p.must(")")
		return x
	}
	return p.grouped()
}

// number: a number that is a value; the greatest one is none without a - ahead.
func (p *parser) number(t api.Token) api.Expr {
	if t.N >= 1<<63 {
		p.fail(api.ErrRange)
		return api.Expr{}
	}
	p.at++
	return value(api.Value{Kind: api.KInt, N: int64(t.N)})
}

func (p *parser) column() api.Expr {
	x := api.Expr{Op: api.ExColumn, Name: p.name()}
	if p.sign(".") {
		x.Table, x.Name = x.Name, p.name()
	}
	return x
}

// ofGroups are the words of what is told of a group.
var ofGroups = [...]link{
	{api.TokWord, "COUNT", api.ExCount}, {api.TokWord, "SUM", api.ExSum},
	{api.TokWord, "MIN", api.ExMin}, {api.TokWord, "MAX", api.ExMax},
}

// grouped: what is told of a group.
func (p *parser) grouped() api.Expr {
	for _, k := range ofGroups {
		if !p.word(k.text) {
			continue
		}
		x := api.Expr{Op: k.op}
		p.must("(")
		if k.op != api.ExCount || !p.sign("*") {
			x.Kids = []api.Expr{p.or()}
		}
		p.must(")")
		return x
	}
	p.fail(api.ErrText)
	return api.Expr{}
}
