package parse

import "counterfoil/api"

// statement: the statement that begins here.
func (p *parser) statement() api.Stmt {
	for _, k := range []struct {
		word string
		take func() api.Stmt
	}{
		{"CREATE", p.create}, {"DROP", p.drop}, {"INSERT", p.insert}, {"UPDATE", p.update}, {"DELETE", p.delete}, {"SELECT", p.selects},
		{"BEGIN", p.begins}, {"COMMIT", p.commit}, {"ROLLBACK", p.rollback}, {"SAVEPOINT", p.savepoint}, {"RELEASE", p.release},
	} {
		if p.word(k.word) {
			return k.take()
		}
	}
	p.fail(api.ErrText)
	return api.Stmt{}
}

func (p *parser) begins() api.Stmt { return api.Stmt{Kind: api.StBegin} }

func (p *parser) commit() api.Stmt { return api.Stmt{Kind: api.StCommit} }

func (p *parser) savepoint() api.Stmt { return api.Stmt{Kind: api.StSave, Name: p.name()} }

func (p *parser) release() api.Stmt { return api.Stmt{Kind: api.StRelease, Name: p.name()} }

func (p *parser) rollback() api.Stmt {
	if p.word("TO") {
		return api.Stmt{Kind: api.StBack, Name: p.name()}
	}
	return api.Stmt{Kind: api.StRollback}
}

func (p *parser) create() api.Stmt {
	if p.word("TABLE") {
		return p.createTable()
	}
	s := api.Stmt{Kind: api.StIndex, Unique: p.word("UNIQUE")}
	p.words("INDEX")
	s.Name = p.name()
	p.words("ON")
	s.Table = p.name()
	s.Key = bracketed(p, p.name)
	return s
}

func (p *parser) createTable() api.Stmt {
	s := api.Stmt{Kind: api.StCreate, Table: p.name()}
	p.must("(")
	for len(s.Columns) == 0 || p.more() && !p.word("PRIMARY") {
		s.Columns = append(s.Columns, p.defined())
		p.must(",")
	}
	p.words("KEY")
	s.Key = bracketed(p, p.name)
	p.must(")")
	return s
}

// types are the words of the kinds of a column's values.
var types = [...]link{{api.TokWord, "INTEGER", api.KInt}, {api.TokWord, "TEXT", api.KText}, {api.TokWord, "BLOB", api.KBlob}}

// defined: a column as it is created.
func (p *parser) defined() api.Column {
	c := api.Column{Name: p.name()}
	for _, k := range types {
		if p.word(k.text) {
			c.Type = k.op
			break
		}
	}
	if c.Type == api.KNull {
		p.fail(api.ErrText)
	}
	if p.word("NOT") {
		p.words("NULL")
		c.NotNull = true
	}
	return c
}

func (p *parser) drop() api.Stmt {
	if p.word("TABLE") {
		return api.Stmt{Kind: api.StDrop, Table: p.name()}
	}
	p.words("INDEX")
	return api.Stmt{Kind: api.StDropIndex, Name: p.name()}
}

func (p *parser) insert() api.Stmt {
	p.words("INTO")
	s := api.Stmt{Kind: api.StInsert, Table: p.name()}
	s.Names = bracketed(p, p.name)
	p.words("VALUES")
	s.Rows = list(p, func() []api.Expr { return bracketed(p, p.or) })
	return s
}

func (p *parser) update() api.Stmt {
	s := api.Stmt{Kind: api.StUpdate, Table: p.name()}
	p.words("SET")
	s.Sets = list(p, func() api.Set {
		x := api.Set{Name: p.name()}
		p.must("=")
		x.E = p.or()
		return x
	})
	s.Where = p.perhaps("WHERE")
	return s
}

func (p *parser) delete() api.Stmt {
	p.words("FROM")
	return api.Stmt{Kind: api.StDelete, Table: p.name(), Where: p.perhaps("WHERE")}
}

// perhaps: the expression behind that word, if it stands here.
func (p *parser) perhaps(word string) []api.Expr {
	if !p.word(word) {
		return nil
	}
	return []api.Expr{p.or()}
}

func (p *parser) selects() api.Stmt {
	s := api.Stmt{Kind: api.StSelect, Limit: -1}
	if !p.sign("*") {
		s.Items = list(p, func() api.Item { return api.Item{E: p.or(), As: p.as()} })
	}
	p.words("FROM")
	s.From = []api.Source{p.source()}
	for p.word("JOIN") {
		x := p.source()
		p.words("ON")
		x.On = []api.Expr{p.or()}
		s.From = append(s.From, x)
	}
	s.Where = p.perhaps("WHERE")
	if p.word("GROUP") {
		p.words("BY")
		s.Group = list(p, p.or)
	}
	s.Having = p.perhaps("HAVING")
	if p.word("ORDER") {
		p.words("BY")
		s.Order = list(p, func() api.Order { return api.Order{E: p.or(), Desc: p.word("DESC")} })
	}
	if p.word("LIMIT") {
		s.Limit = p.limit()
	}
	return s
}

// as: the name behind AS, if that stands here.
func (p *parser) as() string {
	if !p.word("AS") {
		return ""
	}
	return p.name()
}

func (p *parser) source() api.Source { return api.Source{Table: p.name(), As: p.as()} }

// limit: the number behind LIMIT.
func (p *parser) limit() int {
	t := p.next()
	if t.Kind != api.TokInt {
		p.fail(api.ErrText)
		return 0
	}
	if t.N > api.MaxLimit {
		p.fail(api.ErrRange)
		return 0
	}
	p.at++
	return int(t.N)
}
