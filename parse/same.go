package parse

import (
	"slices"

	"counterfoil/api"
)

// SameExpr: whether all fields are the same.
func SameExpr(a, b api.Expr) bool {
	return a.Op == b.Op && a.V == b.V && a.Table == b.Table && a.Name == b.Name && a.N == b.N && sameExprs(a.Kids, b.Kids)
}

func sameExprs(a, b []api.Expr) bool { return slices.EqualFunc(a, b, SameExpr) }

func sameSet(a, b api.Set) bool { return a.Name == b.Name && SameExpr(a.E, b.E) }

func sameItem(a, b api.Item) bool { return a.As == b.As && SameExpr(a.E, b.E) }

func sameOrder(a, b api.Order) bool { return a.Desc == b.Desc && SameExpr(a.E, b.E) }

func sameSource(a, b api.Source) bool {
	return a.Table == b.Table && a.As == b.As && sameExprs(a.On, b.On)
}

// Same: whether all fields are the same.
func Same(a, b api.Stmt) bool {
	return a.Kind == b.Kind && a.Table == b.Table && a.Name == b.Name && a.Unique == b.Unique && a.Limit == b.Limit &&
		slices.Equal(a.Columns, b.Columns) && slices.Equal(a.Key, b.Key) && slices.Equal(a.Names, b.Names) &&
		slices.EqualFunc(a.Rows, b.Rows, sameExprs) && slices.EqualFunc(a.Sets, b.Sets, sameSet) &&
		slices.EqualFunc(a.Items, b.Items, sameItem) && slices.EqualFunc(a.From, b.From, sameSource) &&
		sameExprs(a.Where, b.Where) && sameExprs(a.Group, b.Group) && sameExprs(a.Having, b.Having) &&
		slices.EqualFunc(a.Order, b.Order, sameOrder)
}
