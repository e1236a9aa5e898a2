package btree

import (
	"slices"

	"counterfoil/api"
	"counterfoil/node"
	"counterfoil/pager"
)

// remove: below the page the key is no more. The page, as it is then, is answered: it may be too little, or too much.
func (x *edit) remove(page, depth int, key string) (api.Node, api.Errno) {
	n, e := x.read(page, depth)
	if e != api.OK {
		return api.Node{}, e
	}
	if n.Kind == api.NodeInner {
		i := place(n, key)
		c, e := x.remove(child(n, i), depth+1, key)
		if e != api.OK {
			return api.Node{}, e
		}
		e = x.settle(&n, i, c)
		return n, e
	}
	i, found := find(n, key)
	if !found {
		return api.Node{}, api.ErrNone
	}
	if e := more(x.p, n.Cells[i], x.drop); e != api.OK {
		return api.Node{}, e
	}
	n.Cells = slices.Delete(n.Cells, i, i+1)
	return n, api.OK
}

// settle: the inner page's page at that place is c: left away, if it has nothing, joined to one beside it, if it has little.
func (x *edit) settle(n *api.Node, i int, c api.Node) api.Errno {
	page := child(*n, i)
	if c.Kind == api.NodeLeaf && len(c.Cells) == 0 {
		x.drop(page, "")
		if i == 0 {
			n.First, i = n.Cells[0].Page, 1
		}
		n.Cells = slices.Delete(n.Cells, i-1, i)
		return api.OK
	}
	if node.Size(c) < api.PageSize/2 { // of an inner page without cells that is 0
		done, e := x.join(n, i, c)
		if done || e != api.OK {
			return e
		}
	}
	up, e := x.fit(page, c, false)
	n.Cells = slices.Insert(n.Cells, i, up...)
	return e
}

// join: c, the inner page's page at that place, and the one ahead of it, or behind it, are one, if that is not too much; if c can't stand alone, they are two others.
func (x *edit) join(n *api.Node, i int, c api.Node) (bool, api.Errno) {
	for _, at := range []int{i - 1, i} { // the cell between the two
		if at < 0 || at >= len(n.Cells) {
			continue
		}
		left, right := c, c
		var e api.Errno
		if at < i {
			left, e = pageAt(x.p, child(*n, at))
		} else {
			right, e = pageAt(x.p, child(*n, at+1))
		}
		if e != api.OK {
			return false, e
		}
		if left.Kind != right.Kind {
			return false, api.ErrBytes
		}
		both := joined(left, n.Cells[at].Key, right)
		first, second := child(*n, at), child(*n, at+1)
		switch {
		case node.Size(both) <= api.PageSize:
			x.nodes[first] = both
			x.drop(second, "")
			n.Cells = slices.Delete(n.Cells, at, at+1)
			return true, api.OK
		case len(c.Cells) == 0:
			x.nodes[first], n.Cells[at].Key, x.nodes[second] = split(both, false)
			return true, api.OK
		}
	}
	return false, api.OK
}

// joined: two pages, with the key between them, as one.
func joined(left api.Node, key string, right api.Node) api.Node {
	var between []api.Cell
	if left.Kind == api.NodeInner {
		between = []api.Cell{{Key: key, Page: right.First}}
	}
	left.Cells = slices.Concat(left.Cells, between, right.Cells)
	return left
}

// Delete: the tree has the key no more; its root.
func Delete(p *pager.Pager, root int, key string) (int, api.Errno) {
	if p != nil && len(key) > api.MaxKey {
		return 0, api.ErrLong
	}
	if e := idle(p); e != api.OK {
		return 0, e
	}
	if root == 0 {
		return 0, api.ErrNone
	}
	x, e := begin(p)
	if e != api.OK {
		return 0, e
	}
	n, e := x.remove(root, 1, key)
	if e != api.OK {
		return 0, e
	}
	switch {
	case len(n.Cells) > 0:
		up, e := x.fit(root, n, false)
		if root, e = x.grown(root, up, e); e != api.OK {
			return 0, e
		}
	case n.Kind == api.NodeLeaf:
		x.drop(root, "")
		root = 0
	default: // an inner page that has but one page
		x.drop(root, "")
		root = n.First
	}
	return x.done(root)
}
