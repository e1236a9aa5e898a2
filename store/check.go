package store

import (
	"slices"

	"counterfoil/api"
	"counterfoil/btree"
	"counterfoil/pager"
	"counterfoil/space"
)

// Check: how many pages all trees together have.
func Check(p *pager.Pager) (int, api.Errno) {
	c, e := read(p)
	if e != api.OK {
		return 0, e
	}
	keys, pages, e := btree.Check(p, c.root)
	if e != api.OK {
		return 0, e
	}
	if keys != len(c.entries) {
		return 0, api.ErrBytes
	}
	for _, t := range c.tables {
		t, e := c.open(t.Name)
		if e != api.OK {
			return 0, e
		}
		n, e := t.check()
		if e != api.OK {
			return 0, e
		}
		pages += n
	}
	h, e := space.Read(p)
	if e != api.OK {
		return 0, e
	}
	// More than all pages: one is in two trees, or free.
	if pages > 0 && 1+pages+h.Count > p.Pages() {
		return 0, api.ErrBytes
	}
	return pages, api.OK
}

// check: how many pages the table's tree, and those of its indexes, have.
func (t *opened) check() (int, api.Errno) {
	p := t.catalog.p
	keys, pages, e := btree.Check(p, t.root)
	if e != api.OK {
		return 0, e
	}
	rows, e := t.byKey("")
	if e != api.OK {
		return 0, e
	}
	if len(rows) != keys {
		return 0, api.ErrBytes
	}
	for i, x := range t.Indexes {
		_, n, e := btree.Check(p, t.roots[i])
		if e != api.OK {
			return 0, e
		}
		own, e := t.indexKeys(x)
		if e != api.OK {
			return 0, bytes(e)
		}
		there, e := indexed(p, t.roots[i])
		if e != api.OK {
			return 0, e
		}
		if slices.Sort(own); !slices.Equal(own, there) {
			return 0, api.ErrBytes
		}
		pages += n
	}
	return pages, api.OK
}

// bytes: the error of rows that are there although no index lets them be.
func bytes(e api.Errno) api.Errno {
	if e == api.ErrLong || e == api.ErrUnique {
		return api.ErrBytes
	}
	return e
}

// indexed: the keys of an index's tree.
func indexed(p *pager.Pager, root int) (keys []string, e api.Errno) {
	e = scan(p, root, "", func(k, s string) api.Errno {
		if s != "" {
			return api.ErrBytes
		}
		keys = append(keys, k)
		return api.OK
	})
	return keys, e
}
