package query

import (
	"slices"

	"counterfoil/api"
	"counterfoil/eval"
	"counterfoil/schema"
	"counterfoil/value"
)

// line is a row that is told, and by what it is ordered.
type line struct{ items, order []api.Value }

// ofGroup: whether something in x is told of a group.
func ofGroup(x api.Expr) bool {
	return x.Op >= api.ExCount && x.Op <= api.ExMax || slices.ContainsFunc(x.Kids, ofGroup)
}

// grouped: whether a resolved SELECT is.
func grouped(s api.Stmt) bool {
	return len(s.Group) > 0 || len(s.Having) > 0 ||
		slices.ContainsFunc(s.Items, func(x api.Item) bool { return ofGroup(x.E) }) ||
		slices.ContainsFunc(s.Order, func(x api.Order) bool { return ofGroup(x.E) })
}

// told: the rows that are told of those that were found, or of their groups.
func told(c []api.Table, s api.Stmt, rows [][]api.Value) ([]line, api.Errno) {
	var lines []line
	add := func(come func(x api.Expr) (api.Value, api.Errno)) api.Errno {
		l, ok, e := one(s, come)
		if ok {
			lines = append(lines, l)
		}
		return e
	}
	if !grouped(s) {
		for _, row := range rows {
			e := add(func(x api.Expr) (api.Value, api.Errno) { return eval.Eval(x, row) })
			if e != api.OK {
				return nil, e
			}
		}
		return lines, api.OK
	}
	columns := 0
	for _, t := range s.From {
		at, _ := schema.Find(c, t.Table)
		columns += len(c[at].Columns)
	}
	for _, group := range groups(s.Group, rows) {
		e := add(func(x api.Expr) (api.Value, api.Errno) { return eval.Fold(x, group, columns) })
		if e != api.OK {
			return nil, e
		}
	}
	return lines, api.OK
}

// one: what is told of a row or a group, if it is: Having, Items, Order, as each comes.
func one(s api.Stmt, come func(x api.Expr) (api.Value, api.Errno)) (l line, ok bool, e api.Errno) {
	for _, x := range s.Having {
		if v, e := come(x); e != api.OK || !eval.True(v) {
			return line{}, false, e
		}
	}
	for _, x := range s.Items {
		v, e := come(x.E)
		if e != api.OK {
			return line{}, false, e
		}
		l.items = append(l.items, v)
	}
	for _, x := range s.Order {
		v, e := come(x.E)
		if e != api.OK {
			return line{}, false, e
		}
		l.order = append(l.order, v)
	}
	return l, true, api.OK
}

// groups: the rows that have the same values in these columns, in the order of the values; without columns all are one.
func groups(by []api.Expr, rows [][]api.Value) [][][]api.Value {
	if len(by) == 0 {
		return [][][]api.Value{rows}
	}
	compare := func(a, b []api.Value) int {
		for _, x := range by {
			if c := value.Compare(a[x.N], b[x.N]); c != 0 {
				return c
			}
		}
		return 0
	}
	rows = slices.Clone(rows)
	slices.SortStableFunc(rows, compare)
	var list [][][]api.Value
	for i, row := range rows {
		if i == 0 || compare(rows[i-1], row) != 0 {
			list = append(list, nil)
		}
		last := len(list) - 1
		list[last] = append(list[last], row)
	}
	return list
}

// ordered: the items of the lines, in the order that the SELECT asks for, as many as it asks for.
func ordered(s api.Stmt, lines []line) [][]api.Value {
	slices.SortStableFunc(lines, func(a, b line) int {
		for i, x := range s.Order {
			c := value.Compare(a.order[i], b.order[i])
			if x.Desc {
				c = -c
			}
			if c != 0 {
				return c
			}
		}
		return 0
	})
	if s.Limit >= 0 && s.Limit < len(lines) {
		lines = lines[:s.Limit]
	}
	var rows [][]api.Value
	for _, l := range lines {
		rows = append(rows, l.items)
	}
	return rows
}
