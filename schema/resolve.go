package schema

import (
	"slices"

	"counterfoil/api"
	"counterfoil/eval"
)

// source is a table that is looked into, the name that it has there, and how many columns the sources ahead have.
type source struct {
	api.Table
	as    string
	ahead int
}

// scope is what names mean among sources.
type scope struct {
	sources []source
	place   func(x api.Expr) (int, bool) // of the column that x names
	kinds   []uint8                      // of all columns
}

// looked: the scope of these sources.
func looked(sources []source) scope {
	s := scope{sources: sources}
	for _, t := range sources {
		for _, c := range t.Columns {
			s.kinds = append(s.kinds, c.Type)
		}
	}
	s.place = func(x api.Expr) (place int, ok bool) {
		found := 0
		for _, t := range sources {
			i := slices.IndexFunc(t.Columns, func(c api.Column) bool { return c.Name == x.Name })
			if i >= 0 && (x.Table == "" || x.Table == t.as) {
				found++
				place = t.ahead + i
			}
		}
		return place, found == 1
	}
	return s
}

// table: the scope of one table.
func table(c []api.Table, name string) (scope, api.Errno) {
	at, ok := Find(c, name)
	if !ok {
		return scope{}, api.ErrTable
	}
	return looked([]source{{Table: c[at], as: name}}), api.OK
}

// each: what one makes of all things of a list, or the first error.
func each[T any](list []T, one func(T) (T, api.Errno)) ([]T, api.Errno) {
	var made []T
	for _, x := range list {
		y, e := one(x)
		if e != api.OK {
			return nil, e
		}
		made = append(made, y)
	}
	return made, api.OK
}

// located: x with the places of its columns.
func (s scope) located(x api.Expr) (api.Expr, api.Errno) {
	if x.Op == api.ExColumn {
		n, ok := s.place(x)
		if !ok {
			return api.Expr{}, api.ErrColumn
		}
		x.N = n
		return x, api.OK
	}
	kids, e := each(x.Kids, s.located)
	x.Kids = kids
	return x, e
}

// typed: x with the places of its columns, and the kind to which it comes.
func (s scope) typed(x api.Expr, group bool) (api.Expr, uint8, api.Errno) {
	x, e := s.located(x)
	if e != api.OK {
		return api.Expr{}, 0, e
	}
	kind, e := eval.Type(x, s.kinds, group)
	return x, kind, e
}

// of: x, which must come to null or that kind.
func (s scope) of(x api.Expr, kind uint8, group bool) (api.Expr, api.Errno) {
	x, k, e := s.typed(x, group)
	if e == api.OK && k != kind && k != api.KNull {
		e = api.ErrType
	}
	return x, e
}

// condition: x as something that must hold.
func (s scope) condition(x api.Expr) (api.Expr, api.Errno) { return s.of(x, api.KInt, false) }

// Resolve: the statement with all that its names mean.
func Resolve(c []api.Table, s api.Stmt) (api.Stmt, api.Errno) {
	if !asked(c, s) {
		return api.Stmt{}, api.ErrArg
	}
	e := api.ErrArg
	switch s.Kind {
	case api.StInsert:
		s, e = insert(c, s)
	case api.StUpdate, api.StDelete:
		s, e = change(c, s)
	case api.StSelect:
		s, e = selects(c, s)
	}
	if e != api.OK {
		return api.Stmt{}, e
	}
	return s, api.OK
}

func insert(c []api.Table, s api.Stmt) (api.Stmt, api.Errno) {
	t, e := table(c, s.Table)
	if e != api.OK {
		return s, e
	}
	columns, ok := places(t.sources[0].Columns, s.Names)
	if !ok {
		return s, api.ErrColumn
	}
	none := looked(nil)
	s.Rows, e = each(s.Rows, func(row []api.Expr) ([]api.Expr, api.Errno) {
		if len(row) != len(columns) {
			return nil, api.ErrCount
		}
		i := -1
		return each(row, func(x api.Expr) (api.Expr, api.Errno) {
			i++
			return none.of(x, t.kinds[columns[i]], false)
		})
	})
	return s, e
}

// change: an UPDATE, or a DELETE, which has no Sets.
func change(c []api.Table, s api.Stmt) (api.Stmt, api.Errno) {
	t, e := table(c, s.Table)
	if e != api.OK {
		return s, e
	}
	var names []string // that stood ahead
	s.Sets, e = each(s.Sets, func(x api.Set) (api.Set, api.Errno) {
		names = append(names, x.Name)
		columns, ok := places(t.sources[0].Columns, names)
		if !ok {
			return x, api.ErrColumn
		}
		var e api.Errno
		x.E, e = t.of(x.E, t.kinds[columns[len(columns)-1]], false)
		return x, e
	})
	if e != api.OK {
		return s, e
	}
	s.Where, e = each(s.Where, t.condition)
	return s, e
}
