package schema

import (
	"slices"

	"counterfoil/api"
)

// toldOfGroup: whether something in x is told of a group.
func toldOfGroup(x api.Expr) bool {
	return x.Op >= api.ExCount && x.Op <= api.ExMax || slices.ContainsFunc(x.Kids, toldOfGroup)
}

// grouped: whether a SELECT is.
func grouped(s api.Stmt) bool {
	return len(s.Group) > 0 || slices.ContainsFunc(s.Having, toldOfGroup) ||
		slices.ContainsFunc(s.Items, func(x api.Item) bool { return toldOfGroup(x.E) }) ||
		slices.ContainsFunc(s.Order, func(x api.Order) bool { return toldOfGroup(x.E) })
}

// selects: a SELECT.
func selects(c []api.Table, s api.Stmt) (api.Stmt, api.Errno) {
	if len(s.From) > api.MaxSources || len(s.Items) > api.MaxColumns {
		return s, api.ErrMany
	}
	all, e := joined(c, &s)
	if e != api.OK {
		return s, e
	}
	if s.Where, e = each(s.Where, all.condition); e != api.OK {
		return s, e
	}
	s.Group, e = each(s.Group, func(x api.Expr) (api.Expr, api.Errno) {
		if x.Op != api.ExColumn {
			return x, api.ErrGroup
		}
		return all.located(x)
	})
	if e != api.OK {
		return s, e
	}
	if group := grouped(s); group && len(s.Items) == 0 || !group && len(s.Having) > 0 {
		return s, api.ErrGroup
	}
	if len(s.Items) == 0 {
		s.Items = all.items()
	}
	if len(s.Items) > api.MaxColumns {
		return s, api.ErrMany
	}
	return s, told(all, &s)
}

// joined: the scope of all sources; what must hold of each may name it and those ahead.
func joined(c []api.Table, s *api.Stmt) (scope, api.Errno) {
	all := looked(nil)
	var e api.Errno
	s.From, e = each(s.From, func(x api.Source) (api.Source, api.Errno) {
		at, ok := Find(c, x.Table)
		if !ok {
			return x, api.ErrTable
		}
		name := x.As
		if name == "" {
			name = x.Table
		}
		if slices.ContainsFunc(all.sources, func(t source) bool { return t.as == name }) {
			return x, api.ErrExists
		}
		all = looked(append(all.sources, source{Table: c[at], as: name, ahead: len(all.kinds)}))
		var e api.Errno
		x.On, e = each(x.On, all.condition)
		return x, e
	})
	return all, e
}

// items: one for each column.
func (s scope) items() []api.Item {
	var list []api.Item
	for _, t := range s.sources {
		for _, c := range t.Columns {
			list = append(list, api.Item{E: api.Expr{Op: api.ExColumn, Table: t.as, Name: c.Name}})
		}
	}
	return list
}

// told: what is told of each row or group: Items, Having, Order.
func told(all scope, s *api.Stmt) api.Errno {
	group := grouped(*s)
	one := func(x api.Expr, e api.Errno) (api.Expr, api.Errno) {
		if e == api.OK && group && !byGroup(x, s.Group) {
			e = api.ErrGroup
		}
		return x, e
	}
	expr := func(x api.Expr) (api.Expr, api.Errno) {
		x, _, e := all.typed(x, group)
		return one(x, e)
	}
	var e api.Errno
	s.Items, e = each(s.Items, func(x api.Item) (api.Item, api.Errno) {
		var e api.Errno
		x.E, e = expr(x.E)
		return x, e
	})
	if e != api.OK {
		return e
	}
	s.Having, e = each(s.Having, func(x api.Expr) (api.Expr, api.Errno) { return one(all.of(x, api.KInt, group)) })
	if e != api.OK {
		return e
	}
	s.Order, e = each(s.Order, func(x api.Order) (api.Order, api.Errno) {
		var e api.Errno
		x.E, e = expr(x.E)
		return x, e
	})
	return e
}

// byGroup: whether all columns of x, outside of what is told of a group, are some of these.
func byGroup(x api.Expr, group []api.Expr) bool {
	switch {
	case x.Op >= api.ExCount && x.Op <= api.ExMax:
		return true
	case x.Op == api.ExColumn:
		return slices.ContainsFunc(group, func(g api.Expr) bool { return g.N == x.N })
	}
	return !slices.ContainsFunc(x.Kids, func(kid api.Expr) bool { return !byGroup(kid, group) })
}
