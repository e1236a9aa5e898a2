package store

import (
	"slices"

	"counterfoil/api"
	"counterfoil/btree"
	"counterfoil/pager"
	"counterfoil/parse"
	"counterfoil/schema"
)

// Define: what the statement creates is there, what it drops is gone.
func Define(p *pager.Pager, s api.Stmt) api.Errno {
	c, e := read(p)
	if e != api.OK {
		return e
	}
	tables, e := schema.Define(c.tables, s)
	if e != api.OK {
		return e
	}
	switch s.Kind {
	case api.StDrop:
		t, _ := c.open(s.Table)
		return c.dropTable(t)
	case api.StDropIndex:
		return c.drop(createdKey(ofIndex, s.Name))
	}
	return c.create(tables, s)
}

// create: a table, or an index, of the catalog that there is then.
func (c *catalog) create(tables []api.Table, s api.Stmt) api.Errno {
	writing, _ := parse.Print(s)
	if len(writing) > api.MaxValue {
		return api.ErrLong
	}
	var keys []string
	if s.Kind == api.StIndex {
		at, _ := schema.Find(tables, s.Table)
		i := slices.IndexFunc(tables[at].Indexes, func(x api.Index) bool { return x.Name == s.Name })
		t, e := c.open(s.Table)
		if e != api.OK {
			return e
		}
		if keys, e = t.indexKeys(tables[at].Indexes[i]); e != api.OK {
			return e
		}
	}
	if e := busy(c.p); e != api.OK {
		return e
	}
	root, e := 0, api.OK
	for _, k := range keys {
		if root, e = btree.Put(c.p, root, k, ""); e != api.OK {
			return e
		}
	}
	return c.put(keyOf(s), entry{writing, root})
}

// indexKeys: the index's keys of all rows.
func (t *opened) indexKeys(x api.Index) ([]string, api.Errno) {
	var keys []string
	ahead := map[string]int{} // how many rows have a part that one row alone may have
	e := scan(t.catalog.p, t.root, "", func(k, s string) api.Errno {
		row, e := t.taken(k, s)
		if e != api.OK {
			return e
		}
		own, e := indexKey(x, row, k)
		if e != api.OK {
			return e
		}
		keys = append(keys, own)
		if s, alone := indexPart(x, row); alone {
			if ahead[s]++; ahead[s] > 1 {
				return api.ErrUnique
			}
		}
		return api.OK
	})
	return keys, e
}

// drop: what has that key in the tree of what was created.
func (c *catalog) drop(k string) api.Errno {
	if e := busy(c.p); e != api.OK {
		return e
	}
	return c.remove(k)
}

// dropTable: a table, with its indexes.
func (c *catalog) dropTable(t *opened) api.Errno {
	for _, x := range t.Indexes {
		if e := c.drop(createdKey(ofIndex, x.Name)); e != api.OK {
			return e
		}
	}
	return c.drop(createdKey(ofTable, t.Name))
}
