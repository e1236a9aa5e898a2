package schema

import (
	"slices"
	"strings"

	"counterfoil/api"
	"counterfoil/parse"
)

// asked: whether a catalog may be asked for what a statement means.
func asked(c []api.Table, s api.Stmt) bool {
	_, e := parse.Print(s)
	return e == api.OK && Check(c) == api.OK
}

// Define: the catalog behind a statement that creates or drops something.
func Define(c []api.Table, s api.Stmt) ([]api.Table, api.Errno) {
	if !asked(c, s) {
		return nil, api.ErrArg
	}
	switch s.Kind {
	case api.StCreate:
		return createTable(c, s)
	case api.StDrop:
		return dropTable(c, s)
	case api.StIndex:
		return createIndex(c, s)
	case api.StDropIndex:
		return dropIndex(c, s)
	}
	return nil, api.ErrArg
}

// places: the places of the columns of these names; false, if one is none's, or stands there twice.
func places(columns []api.Column, names []string) ([]int, bool) {
	var list []int
	all := columnNames(columns)
	for _, name := range names {
		list = append(list, slices.Index(all, name))
	}
	return list, !slices.Contains(list, -1) && !twice(list)
}

// inserted: the list with x, where its name has its place.
func inserted[T any](list []T, x T, name func(T) string) []T {
	at, _ := slices.BinarySearchFunc(list, name(x), func(y T, s string) int { return strings.Compare(name(y), s) })
	return slices.Insert(slices.Clone(list), at, x)
}

// without: the list without what stands at that place.
func without[T any](list []T, at int) []T { return slices.Delete(slices.Clone(list), at, at+1) }

func createTable(c []api.Table, s api.Stmt) ([]api.Table, api.Errno) {
	if _, ok := Find(c, s.Table); ok {
		return nil, api.ErrExists
	}
	if len(c) >= api.MaxTables || len(s.Columns) > api.MaxColumns || len(s.Key) > api.MaxColumns {
		return nil, api.ErrMany
	}
	key, ok := places(s.Columns, s.Key)
	if !ok || twice(columnNames(s.Columns)) {
		return nil, api.ErrColumn
	}
	t := api.Table{Name: s.Table, Columns: slices.Clone(s.Columns), Key: key}
	for _, n := range key {
		t.Columns[n].NotNull = true
	}
	return inserted(c, t, tableName), api.OK
}

func dropTable(c []api.Table, s api.Stmt) ([]api.Table, api.Errno) {
	at, ok := Find(c, s.Table)
	if !ok {
		return nil, api.ErrTable
	}
	return without(c, at), api.OK
}

// findIndex: the place of the table that has an index of that name, and the index's there.
func findIndex(c []api.Table, name string) (at, index int, ok bool) {
	for i, t := range c {
		for k, x := range t.Indexes {
			if x.Name == name {
				return i, k, true
			}
		}
	}
	return 0, 0, false
}

// indexed: the catalog whose table at that place has these indexes.
func indexed(c []api.Table, at int, list []api.Index) []api.Table {
	c = slices.Clone(c)
	c[at].Indexes = list
	return c
}

func createIndex(c []api.Table, s api.Stmt) ([]api.Table, api.Errno) {
	if _, _, ok := findIndex(c, s.Name); ok {
		return nil, api.ErrExists
	}
	at, ok := Find(c, s.Table)
	if !ok {
		return nil, api.ErrTable
	}
	list := c[at].Indexes
	if len(list) >= api.MaxIndexes || len(s.Key) > api.MaxColumns {
		return nil, api.ErrMany
	}
	columns, ok := places(c[at].Columns, s.Key)
	if !ok {
		return nil, api.ErrColumn
	}
	x := api.Index{Name: s.Name, Columns: columns, Unique: s.Unique}
	return indexed(c, at, inserted(list, x, indexName)), api.OK
}

func dropIndex(c []api.Table, s api.Stmt) ([]api.Table, api.Errno) {
	at, index, ok := findIndex(c, s.Name)
	if !ok {
		return nil, api.ErrIndex
	}
	return indexed(c, at, without(c[at].Indexes, index)), api.OK
}
