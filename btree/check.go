package btree

import (
	"counterfoil/api"
	"counterfoil/pager"
	"counterfoil/space"
)

// span is the keys from low on, and, if it is bounded, below high.
type span struct {
	low, high string
	bounded   bool
}

// has: whether the key is one of these.
func (s span) has(key string) bool { return key >= s.low && (!s.bounded || key < s.high) }

// part: those of these keys that are found by an inner page's page at that place.
func (s span) part(n api.Node, i int) span {
	if i > 0 {
		s.low = max(s.low, n.Cells[i-1].Key)
	}
	if i < len(n.Cells) && (!s.bounded || n.Cells[i].Key < s.high) {
		s.high, s.bounded = n.Cells[i].Key, true
	}
	return s
}

// walk goes over all pages of a tree.
type walk struct {
	p     *pager.Pager
	seen  [api.MaxPages + 1]bool
	pages []int
	keys  int
	depth int // of the leaves
}

// see: the page is one of the tree; false, if it was already.
func (w *walk) see(page int, _ string) bool {
	if w.seen[page] {
		return false
	}
	w.seen[page] = true
	w.pages = append(w.pages, page)
	return true
}

// page: the page, and all below it, whose keys are of that span.
func (w *walk) page(page, depth int, s span) api.Errno {
	n, e := pageAt(w.p, page)
	if e != api.OK {
		return e
	}
	if depth > maxDepth || !w.see(page, "") {
		return api.ErrBytes
	}
	switch n.Kind {
	case api.NodeLeaf:
		return w.leaf(n, depth, s)
	case api.NodeInner:
		for i := range len(n.Cells) + 1 {
			if e := w.page(child(n, i), depth+1, s.part(n, i)); e != api.OK {
				return e
			}
		}
		return api.OK
	}
	return api.ErrBytes
}

// leaf: a leaf, and the pages of more of its cells.
func (w *walk) leaf(n api.Node, depth int, s span) api.Errno {
	if w.depth == 0 {
		w.depth = depth
	}
	if depth != w.depth || len(n.Cells) == 0 {
		return api.ErrBytes
	}
	for _, c := range n.Cells {
		if !s.has(c.Key) {
			return api.ErrBytes
		}
		if e := more(w.p, c, w.see); e != api.OK {
			return e
		}
	}
	w.keys += len(n.Cells)
	return api.OK
}

// walked: a walk over all of a tree.
func walked(p *pager.Pager, root int) (*walk, api.Errno) {
	w := &walk{p: p}
	if root == 0 {
		return w, api.OK
	}
	return w, w.page(root, 1, span{})
}

// Check: how many keys and pages the tree has.
func Check(p *pager.Pager, root int) (keys int, pages int, e api.Errno) {
	if p == nil {
		return 0, 0, api.ErrNil
	}
	w, e := walked(p, root)
	if e != api.OK {
		return 0, 0, e
	}
	return w.keys, len(w.pages), api.OK
}

// idle: what stands against changing anything.
func idle(p *pager.Pager) api.Errno {
	// There is no savepoint 0, but without a transaction, or a pager, that is said first.
	if e := p.Back(0); e != api.ErrRange {
		return e
	}
	return api.OK
}

// Drop: all pages of the tree are free.
func Drop(p *pager.Pager, root int) api.Errno {
	if e := idle(p); e != api.OK {
		return e
	}
	w, e := walked(p, root)
	if e != api.OK {
		return e
	}
	for _, n := range w.pages {
		if e := space.Free(p, n); e != api.OK {
			return e
		}
	}
	return api.OK
}
