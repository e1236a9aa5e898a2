package store

import (
	"slices"
	"strings"

	"counterfoil/api"
	"counterfoil/btree"
	"counterfoil/key"
	"counterfoil/pager"
	"counterfoil/record"
	"counterfoil/value"
)

// fits: whether a row may be one of the table's.
func (t *opened) fits(row []api.Value) api.Errno {
	if len(row) != len(t.Columns) {
		return api.ErrArg
	}
	for i, v := range row {
		if value.Check(v) != api.OK || v.Kind != api.KNull && v.Kind != t.Columns[i].Type {
			return api.ErrArg
		}
	}
	for i, v := range row {
		if v.Kind == api.KNull && t.Columns[i].NotNull {
			return api.ErrNull
		}
	}
	return api.OK
}

// rowKey: the key of a row that fits.
func (t *opened) rowKey(row []api.Value) (string, api.Errno) {
	k, e := key.Put(part(row, t.Key...)...)
	if e == api.OK && len(k) > api.MaxKey {
		return "", api.ErrLong
	}
	return k, e
}

// taken: the row whose key and record these are.
func (t *opened) taken(k, s string) ([]api.Value, api.Errno) {
	row, e := record.Take(s)
	if e != api.OK || t.fits(row) != api.OK {
		return nil, api.ErrBytes
	}
	if own, e := t.rowKey(row); e != api.OK || own != k {
		return nil, api.ErrBytes
	}
	return row, api.OK
}

// indexPart: the key of an index's part of a row, and whether no other row of a Unique one may have it.
func indexPart(x api.Index, row []api.Value) (k string, alone bool) {
	values := part(row, x.Columns...)
	k, _ = key.Put(values...)
	return k, x.Unique && !hasNull(values)
}

// indexKey: the index's key of a row that has the key k.
func indexKey(x api.Index, row []api.Value, k string) (string, api.Errno) {
	s, _ := indexPart(x, row)
	if s += k; len(s) > api.MaxKey {
		return "", api.ErrLong
	}
	return s, api.OK
}

// has: whether a tree has a key that begins with prefix.
func has(p *pager.Pager, root int, prefix string) (bool, api.Errno) {
	k, _, e := btree.Next(p, root, prefix)
	if e == api.ErrNone {
		return false, api.OK
	}
	return e == api.OK && strings.HasPrefix(k, prefix), e
}

// lone: ErrUnique, if a tree has a key that begins with prefix.
func lone(p *pager.Pager, root int, prefix string) api.Errno {
	there, e := has(p, root, prefix)
	if there {
		return api.ErrUnique
	}
	return e
}

// Insert: the row is there.
func Insert(p *pager.Pager, table string, row []api.Value) api.Errno {
	t, e := open(p, table)
	if e != api.OK {
		return e
	}
	if e := t.fits(row); e != api.OK {
		return e
	}
	k, e := t.rowKey(row)
	if e != api.OK {
		return e
	}
	s, e := record.Put(row)
	if e != api.OK {
		return e
	}
	if e := lone(p, t.root, k); e != api.OK {
		return e
	}
	keys := make([]string, len(t.Indexes))
	for i, x := range t.Indexes {
		if keys[i], e = indexKey(x, row, k); e != api.OK {
			return e
		}
		if own, alone := indexPart(x, row); alone {
			if e := lone(p, t.roots[i], own); e != api.OK {
				return e
			}
		}
	}
	if e := busy(p); e != api.OK {
		return e
	}
	return t.each(k, keys, func(root int, k string, index bool) (int, api.Errno) {
		if index {
			return btree.Put(p, root, k, "")
		}
		return btree.Put(p, root, k, s)
	})
}

// each: what is done to the table's tree with the key k, and to its indexes' trees with theirs; their roots are kept.
func (t *opened) each(k string, keys []string, do func(root int, k string, index bool) (int, api.Errno)) api.Errno {
	root, e := do(t.root, k, false)
	if e := t.catalog.grown(createdKey(ofTable, t.Name), root, e); e != api.OK {
		return e
	}
	for i, x := range t.Indexes {
		root, e := do(t.roots[i], keys[i], true)
		if e := t.catalog.grown(createdKey(ofIndex, x.Name), root, e); e != api.OK {
			return e
		}
	}
	return api.OK
}

// find: the row that has the key, and the key as bytes.
func (t *opened) find(values []api.Value) (row []api.Value, k string, e api.Errno) {
	k, e = key.Put(values...)
	if len(values) != len(t.Key) || e != api.OK {
		return nil, "", api.ErrArg
	}
	s, e := btree.Get(t.catalog.p, t.root, k)
	if e != api.OK {
		return nil, "", e
	}
	row, e = t.taken(k, s)
	return row, k, e
}

// Get: the row that has the key.
func Get(p *pager.Pager, table string, l []api.Value) ([]api.Value, api.Errno) {
	t, e := open(p, table)
	if e != api.OK {
		return nil, e
	}
	row, _, e := t.find(l)
	return row, e
}

// Delete: the row that has the key is gone.
func Delete(p *pager.Pager, table string, l []api.Value) api.Errno {
	t, e := open(p, table)
	if e != api.OK {
		return e
	}
	row, k, e := t.find(l)
	if e != api.OK {
		return e
	}
	keys := make([]string, len(t.Indexes))
	for i, x := range t.Indexes {
		if keys[i], e = indexKey(x, row, k); e != api.OK {
			return api.ErrBytes
		}
	}
	if e := busy(p); e != api.OK {
		return e
	}
	return t.each(k, keys, func(root int, k string, index bool) (int, api.Errno) {
		root, e := btree.Delete(p, root, k)
		if e == api.ErrNone { // a row that its index does not find
			e = api.ErrBytes
		}
		return root, e
	})
}

// Rows: the rows whose part begins with l, by an index, or, without one, whose key does.
func Rows(p *pager.Pager, table, index string, l []api.Value) ([][]api.Value, api.Errno) {
	t, e := open(p, table)
	if e != api.OK {
		return nil, e
	}
	at := slices.IndexFunc(t.Indexes, func(x api.Index) bool { return x.Name == index })
	columns := len(t.Key)
	if index != "" {
		if at < 0 {
			return nil, api.ErrIndex
		}
		columns = len(t.Indexes[at].Columns)
	}
	prefix, e := key.Put(l...)
	if e != api.OK || len(l) > columns {
		return nil, api.ErrArg
	}
	if index != "" {
		return t.byIndex(at, prefix)
	}
	return t.byKey(prefix)
}

// byKey: the rows whose key begins with prefix.
func (t *opened) byKey(prefix string) (rows [][]api.Value, e api.Errno) {
	e = scan(t.catalog.p, t.root, prefix, func(k, s string) api.Errno {
		row, e := t.taken(k, s)
		rows = append(rows, row)
		return e
	})
	if e != api.OK {
		return nil, e
	}
	return rows, api.OK
}

// hit is a key of an index, and that of the row which it finds.
type hit struct{ index, row string }

// byIndex: the rows that the index at that place finds by prefix, in the order of their keys.
func (t *opened) byIndex(at int, prefix string) ([][]api.Value, api.Errno) {
	x, p := t.Indexes[at], t.catalog.p
	var found []hit
	e := scan(p, t.roots[at], prefix, func(k, s string) api.Errno {
		row, e := behind(k, len(x.Columns))
		if s != "" {
			return api.ErrBytes
		}
		found = append(found, hit{k, row})
		return e
	})
	if e != api.OK {
		return nil, e
	}
	slices.SortFunc(found, func(a, b hit) int { return strings.Compare(a.row, b.row) })
	var rows [][]api.Value
	for _, f := range found {
		row, e := t.found(x, f)
		if e != api.OK {
			return nil, e
		}
		rows = append(rows, row)
	}
	return rows, api.OK
}

// found: the row that a key of an index finds.
func (t *opened) found(x api.Index, f hit) ([]api.Value, api.Errno) {
	s, e := btree.Get(t.catalog.p, t.root, f.row)
	if e == api.ErrNone {
		return nil, api.ErrBytes
	}
	if e != api.OK {
		return nil, e
	}
	row, e := t.taken(f.row, s)
	if e != api.OK {
		return nil, e
	}
	if own, e := indexKey(x, row, f.row); e != api.OK || own != f.index {
		return nil, api.ErrBytes
	}
	return row, api.OK
}

// behind: what stands in a key behind so many values.
func behind(k string, values int) (string, api.Errno) {
	for range values {
		n, e := key.First(k)
		if e != api.OK {
			return "", e
		}
		k = k[n:]
	}
	return k, api.OK
}
