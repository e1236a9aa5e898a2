package parse

import (
	"strings"

	"counterfoil/api"
	"counterfoil/lex"
)

// writer is what is written, token by token.
type writer struct {
	strings.Builder
	bad bool // something has no writing
}

// put: a token more.
func (w *writer) put(kind uint8, text string, n uint64) {
	s, e := lex.Write([]api.Token{{Kind: kind, Text: text, N: n}})
	if e != api.OK {
		w.bad = true
		return
	}
	if w.Len() > 0 {
		w.WriteByte(' ')
	}
	w.WriteString(s)
}

// ended: whether nothing more need be written, since there is no writing that may be.
func (w *writer) ended() bool { return w.bad || w.Len() > api.MaxText }

func (w *writer) sign(s string) { w.put(api.TokSign, s, 0) }

func (w *writer) name(s string) { w.put(api.TokName, s, 0) }

// words: words more, with a blank between two.
func (w *writer) words(s string) {
	for _, s := range strings.Fields(s) {
		w.put(api.TokWord, s, 0)
	}
}

// writeList: what one writes of each, with commas between.
func writeList[T any](w *writer, list []T, one func(T)) {
	for i, x := range list {
		if w.ended() {
			return
		}
		if i > 0 {
			w.sign(",")
		}
		one(x)
	}
}

// brackets: what is written, in brackets.
func (w *writer) brackets(write func()) {
	w.sign("(")
	write()
	w.sign(")")
}

// names: names in brackets.
func (w *writer) names(list []string) {
	w.brackets(func() { writeList(w, list, w.name) })
}

// checked: the writing, if read says that it tells what was written.
func (w *writer) checked(read func(text string) bool) (string, api.Errno) {
	if w.ended() || !read(w.String()) {
		return "", api.ErrArg
	}
	return w.String(), api.OK
}

// Print: the writing of a statement.
func Print(s api.Stmt) (string, api.Errno) {
	w := &writer{}
	w.statement(s)
	return w.checked(func(text string) bool {
		l, spot := Script(text)
		return spot.Err == api.OK && len(l) == 1 && Same(l[0], s)
	})
}

// PrintExpr: the writing of an expression.
func PrintExpr(x api.Expr) (string, api.Errno) {
	w := &writer{}
	w.expr(x)
	return w.checked(func(text string) bool {
		y, spot := Expr(text)
		return spot.Err == api.OK && SameExpr(x, y)
	})
}

func (w *writer) statement(s api.Stmt) {
	switch s.Kind {
	case api.StCreate:
		w.create(s)
	case api.StDrop:
		w.words("DROP TABLE")
		w.name(s.Table)
	case api.StIndex:
		w.index(s)
	case api.StDropIndex:
		w.words("DROP INDEX")
		w.name(s.Name)
	case api.StInsert:
		w.insert(s)
	case api.StUpdate:
		w.update(s)
	case api.StDelete:
		w.words("DELETE FROM")
		w.name(s.Table)
		w.perhaps("WHERE", s.Where)
	case api.StSelect:
		w.selects(s)
	default:
		w.transaction(s)
	}
}

// transaction: a statement of transactions and savepoints.
func (w *writer) transaction(s api.Stmt) {
	switch s.Kind {
	case api.StBegin:
		w.words("BEGIN")
	case api.StCommit:
		w.words("COMMIT")
	case api.StRollback:
		w.words("ROLLBACK")
	case api.StSave:
		w.words("SAVEPOINT")
		w.name(s.Name)
	case api.StBack:
		w.words("ROLLBACK TO")
		w.name(s.Name)
	case api.StRelease:
		w.words("RELEASE")
		w.name(s.Name)
	default:
		w.bad = true
	}
}

func (w *writer) create(s api.Stmt) {
	w.words("CREATE TABLE")
	w.name(s.Table)
	w.brackets(func() {
		writeList(w, s.Columns, w.column)
		w.sign(",")
		w.words("PRIMARY KEY")
		w.names(s.Key)
	})
}

func (w *writer) column(c api.Column) {
	w.name(c.Name)
	for _, k := range types {
		if k.op == c.Type {
			w.words(k.text)
		}
	}
	if c.NotNull {
		w.words("NOT NULL")
	}
}

func (w *writer) index(s api.Stmt) {
	w.words("CREATE")
	if s.Unique {
		w.words("UNIQUE")
	}
	w.words("INDEX")
	w.name(s.Name)
	w.words("ON")
	w.name(s.Table)
	w.names(s.Key)
}

func (w *writer) insert(s api.Stmt) {
	w.words("INSERT INTO")
	w.name(s.Table)
	w.names(s.Names)
	w.words("VALUES")
	writeList(w, s.Rows, func(row []api.Expr) {
		w.brackets(func() { writeList(w, row, w.expr) })
	})
}

func (w *writer) update(s api.Stmt) {
	w.words("UPDATE")
	w.name(s.Table)
	w.words("SET")
	writeList(w, s.Sets, func(x api.Set) {
		w.name(x.Name)
		w.sign("=")
		w.expr(x.E)
	})
	w.perhaps("WHERE", s.Where)
}

// perhaps: those words, and the list behind them, if there is one.
func (w *writer) perhaps(words string, list []api.Expr) {
	if len(list) > 0 {
		w.words(words)
		writeList(w, list, w.expr)
	}
}

// as: AS and the name, if there is one.
func (w *writer) as(name string) {
	if name != "" {
		w.words("AS")
		w.name(name)
	}
}

func (w *writer) selects(s api.Stmt) {
	w.words("SELECT")
	if len(s.Items) == 0 {
		w.sign("*")
	}
	writeList(w, s.Items, func(x api.Item) {
		w.expr(x.E)
		w.as(x.As)
	})
	w.words("FROM")
	for i, x := range s.From {
		if i > 0 {
			w.words("JOIN")
		}
		w.name(x.Table)
		w.as(x.As)
		w.perhaps("ON", x.On)
	}
	w.perhaps("WHERE", s.Where)
	w.perhaps("GROUP BY", s.Group)
	w.perhaps("HAVING", s.Having)
	if len(s.Order) > 0 {
		w.words("ORDER BY")
		writeList(w, s.Order, w.order)
	}
	if s.Limit != -1 {
		w.words("LIMIT")
		w.put(api.TokInt, "", uint64(s.Limit))
	}
}

func (w *writer) order(x api.Order) {
	w.expr(x.E)
	if x.Desc {
		w.words("DESC")
	}
}
