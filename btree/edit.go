package btree

import (
	"maps"
	"slices"
	"sort"

	"counterfoil/api"
	"counterfoil/node"
	"counterfoil/pager"
	"counterfoil/space"
)

// edit is what becomes of a tree. It is thought out wholly before anything is done, so that nothing is, where there is no room.
type edit struct {
	p     *pager.Pager
	nodes map[int]api.Node // pages that become others
	gone  []int            // pages that are the tree's no more
	taken []int            // pages that will be the tree's, as space.Alloc will answer them
	free  int              // the first free page then
	pages int              // how many pages there are then
}

// begin: an edit of a tree.
func begin(p *pager.Pager) (*edit, api.Errno) {
	h, e := space.Read(p)
	return &edit{p: p, nodes: map[int]api.Node{}, free: h.Free, pages: p.Pages()}, e
}

// take: a page that is nobody's.
func (x *edit) take() (int, api.Errno) {
	if last := len(x.gone) - 1; last >= 0 {
		page := x.gone[last]
		x.gone = x.gone[:last]
		return page, api.OK
	}
	page := x.free
	if page == 0 {
		if x.pages >= api.MaxPages {
			return 0, api.ErrFull
		}
		x.pages++
		page = x.pages
	} else {
		n, e := pageAt(x.p, page)
		if e != api.OK {
			return 0, e
		}
		if n.Kind != api.NodeFree {
			return 0, api.ErrBytes
		}
		x.free = n.First
	}
	x.taken = append(x.taken, page)
	return page, api.OK
}

// images: the pages that become others, rising.
func (x *edit) images() ([]api.Image, api.Errno) {
	var list []api.Image
	for _, page := range slices.Sorted(maps.Keys(x.nodes)) {
		s, e := node.Put(x.nodes[page])
		if e != api.OK {
			return nil, api.ErrBytes
		}
		list = append(list, api.Image{Page: page, Data: s})
	}
	return list, api.OK
}

// done: what was thought out is done; the root is answered.
func (x *edit) done(root int) (int, api.Errno) {
	list, e := x.images()
	if e != api.OK {
		return 0, e
	}
	for _, page := range x.taken {
		n, e := space.Alloc(x.p)
		if e != api.OK {
			return 0, e
		}
		if n != page {
			return 0, api.ErrBytes
		}
	}
	for _, m := range list {
		if e := x.p.Write(m.Page, m.Data); e != api.OK {
			return 0, e
		}
	}
	for _, page := range x.gone {
		if e := space.Free(x.p, page); e != api.OK {
			return 0, e
		}
	}
	return root, api.OK
}

// cell: a cell of a leaf, whose text has pages of more, if it must.
func (x *edit) cell(key, text string) (api.Cell, api.Errno) {
	c := api.Cell{Key: key, Size: len(text), Local: text[:min(len(text), api.MaxLocal)]}
	// The last page first, since each tells the next one.
	parts := slices.Collect(slices.Chunk([]byte(text[len(c.Local):]), api.MaxData))
	for _, part := range slices.Backward(parts) {
		page, e := x.take()
		if e != api.OK {
			return api.Cell{}, e
		}
		x.nodes[page] = api.Node{Kind: api.NodeMore, First: c.Page, Data: string(part)}
		c.Page = page
	}
	return c, api.OK
}

// drop: the page is the tree's no more.
func (x *edit) drop(page int, _ string) bool {
	x.gone = append(x.gone, page)
	return true
}

// read: an inner page, or a leaf, that is so deep.
func (x *edit) read(page, depth int) (api.Node, api.Errno) {
	n, e := pageAt(x.p, page)
	if e != api.OK {
		return api.Node{}, e
	}
	if depth > maxDepth || n.Kind != api.NodeInner && n.Kind != api.NodeLeaf {
		return api.Node{}, api.ErrBytes
	}
	return n, api.OK
}

// put: below the page the key has that text. What the page's own parent must have, too, is answered.
func (x *edit) put(page, depth int, key, text string) ([]api.Cell, api.Errno) {
	n, e := x.read(page, depth)
	if e != api.OK {
		return nil, e
	}
	if n.Kind == api.NodeInner {
		i := place(n, key)
		up, e := x.put(child(n, i), depth+1, key, text)
		if e != api.OK || len(up) == 0 {
			return nil, e
		}
		n.Cells = slices.Insert(n.Cells, i, up...)
		return x.fit(page, n, i == len(n.Cells)-1)
	}
	i, found := find(n, key)
	if found {
		if e := more(x.p, n.Cells[i], x.drop); e != api.OK {
			return nil, e
		}
	}
	c, e := x.cell(key, text)
	if e != api.OK {
		return nil, e
	}
	if found {
		n.Cells[i] = c
	} else {
		n.Cells = slices.Insert(n.Cells, i, c)
	}
	return x.fit(page, n, !found && i == len(n.Cells)-1)
}

// fit: the page is n, or, if that is too much, its first part; the cell of the other part is answered.
func (x *edit) fit(page int, n api.Node, last bool) ([]api.Cell, api.Errno) {
	if node.Size(n) <= api.PageSize {
		x.nodes[page] = n
		return nil, api.OK
	}
	left, key, right := split(n, last)
	other, e := x.take()
	if e != api.OK {
		return nil, e
	}
	x.nodes[page], x.nodes[other] = left, right
	return []api.Cell{{Key: key, Page: other}}, api.OK
}

// split: a page that is too much in two parts, and the key between them. What grew at its end is not halved: rising keys fill their pages.
func split(n api.Node, last bool) (left api.Node, key string, right api.Node) {
	inner := 0 // how many cells go up
	if n.Kind == api.NodeInner {
		inner = 1
	}
	at := len(n.Cells) - 1 - inner
	left, right = n, n
	if !last {
		at = sort.Search(at, func(i int) bool {
			left.Cells = n.Cells[:i]
			return node.Size(left) > api.PageSize/2
		})
	}
	left.Cells, right.Cells = n.Cells[:at], n.Cells[at+inner:]
	if inner > 0 {
		right.First = n.Cells[at].Page
	}
	return left, n.Cells[at].Key, right
}

// grown: the root, or, if it was split, a new one above both parts.
func (x *edit) grown(root int, up []api.Cell, e api.Errno) (int, api.Errno) {
	if e != api.OK || len(up) == 0 {
		return root, e
	}
	page, e := x.take()
	x.nodes[page] = api.Node{Kind: api.NodeInner, First: root, Cells: up}
	return page, e
}

// Put: the tree has the key with that text; its root.
func Put(p *pager.Pager, root int, key, text string) (int, api.Errno) {
	if p != nil && (len(key) > api.MaxKey || len(text) > api.MaxRow) {
		return 0, api.ErrLong
	}
	if e := idle(p); e != api.OK {
		return 0, e
	}
	x, e := begin(p)
	if e != api.OK {
		return 0, e
	}
	if root == 0 {
		c, e := x.cell(key, text)
		if e != api.OK {
			return 0, e
		}
		page, e := x.take()
		if e != api.OK {
			return 0, e
		}
		x.nodes[page] = api.Node{Kind: api.NodeLeaf, Cells: []api.Cell{c}}
		return x.done(page)
	}
	up, e := x.put(root, 1, key, text)
	root, e = x.grown(root, up, e)
	if e != api.OK {
		return 0, e
	}
	return x.done(root)
}
