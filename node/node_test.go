package node

import (
	"math/rand"
	"reflect"
	"slices"
	"strings"
	"testing"

	"counterfoil/api"
)

// filled: s and bytes 0 up to a page.
func filled(s string) string { return s + strings.Repeat("\x00", api.PageSize-len(s)) }

func leaf(cells ...api.Cell) api.Node { return api.Node{Kind: api.NodeLeaf, Cells: cells} }

func inner(first int, cells ...api.Cell) api.Node {
	return api.Node{Kind: api.NodeInner, First: first, Cells: cells}
}

func more(first int, data string) api.Node {
	return api.Node{Kind: api.NodeMore, First: first, Data: data}
}

// same: whether two pages are, where none and no cells are alike.
func same(a, b api.Node) bool {
	return a.Kind == b.Kind && a.First == b.First && a.Data == b.Data && slices.Equal(a.Cells, b.Cells)
}

var (
	key100  = strings.Repeat("k", 100)
	local   = strings.Repeat("l", 100)
	greater = api.Cell{Key: "k", Size: 101, Local: local, Page: 9}
)

// wrong: pages that may not be.
func wrong() []api.Node {
	change := func(c api.Cell, f func(c *api.Cell)) api.Node {
		f(&c)
		return leaf(c)
	}
	small := api.Cell{Key: "k", Size: 2, Local: "ab"}
	return []api.Node{
		{}, {Kind: 5}, {Kind: 9},
		{Kind: api.NodeLeaf, First: 1}, {Kind: api.NodeLeaf, Data: "a"},
		leaf(small, small), leaf(api.Cell{Key: "b"}, api.Cell{Key: "a"}), leaf(api.Cell{Key: key100 + "k"}),
		change(small, func(c *api.Cell) { c.Size = -1 }),
		change(small, func(c *api.Cell) { c.Size = 3 }),
		change(small, func(c *api.Cell) { c.Page = 1 }),
		change(greater, func(c *api.Cell) { c.Page = 0 }),
		change(greater, func(c *api.Cell) { c.Page = 257 }),
		change(greater, func(c *api.Cell) { c.Size = 4001 }),
		change(greater, func(c *api.Cell) { c.Local = local + "l" }),
		change(greater, func(c *api.Cell) { c.Local = "" }),
		inner(1), inner(0, api.Cell{Key: "k", Page: 2}), inner(257, api.Cell{Key: "k", Page: 2}), inner(1, api.Cell{Key: "k"}),
		inner(1, api.Cell{Key: "k", Page: 257}), inner(1, api.Cell{Key: "k", Page: -1}),
		inner(1, api.Cell{Key: "k", Size: 1, Page: 2}), inner(1, api.Cell{Key: "k", Local: "l", Page: 2}),
		inner(1, api.Cell{Key: "k", Page: 2}, api.Cell{Key: "k", Page: 3}), inner(1, api.Cell{Key: key100 + "k", Page: 2}),
		{Kind: api.NodeInner, First: 1, Cells: []api.Cell{{Page: 2}}, Data: "a"},
		more(0, ""), more(-1, "a"), more(257, "a"), more(0, strings.Repeat("a", 506)),
		{Kind: api.NodeMore, Data: "a", Cells: []api.Cell{{}}},
		{Kind: api.NodeFree, First: -1}, {Kind: api.NodeFree, First: 257}, {Kind: api.NodeFree, Data: "a"}, {Kind: api.NodeFree, Cells: []api.Cell{{}}},
	}
}

func TestWrong(t *testing.T) { // P10.1, P10.2
	for _, n := range wrong() {
		if s, e := Put(n); Size(n) != 0 || s != "" || e != api.ErrArg {
			t.Error(n, Size(n), e)
		}
	}
}

func TestSize(t *testing.T) { // P10.1
	for _, c := range []struct {
		n    api.Node
		size int
	}{
		{leaf(), 3}, {api.Node{Kind: api.NodeFree, First: 256}, 7}, {api.Node{Kind: api.NodeFree}, 7},
		{leaf(api.Cell{}), 6}, {leaf(greater), 3 + 1 + 1 + 2 + 100 + 4}, {leaf(api.Cell{Size: 100, Local: local}), 106},
		{inner(1, api.Cell{Page: 256}), 12}, {inner(256, api.Cell{Key: key100, Page: 1}), 112},
		{more(0, "abc"), 10}, {more(256, strings.Repeat("a", 505)), 512},
	} {
		if Size(c.n) != c.size {
			t.Error(c.n, Size(c.n))
		}
	}
}

func TestPut(t *testing.T) { // P10.2
	for _, c := range []struct {
		n api.Node
		s string
	}{
		{leaf(), "\x01\x00\x00"},
		{leaf(api.Cell{Key: "k", Size: 2, Local: "ab"}), "\x01\x00\x01\x01k\x00\x02ab"},
		{leaf(api.Cell{}, greater), "\x01\x00\x02\x00\x00\x00\x01k\x00\x65" + local + "\x00\x00\x00\x09"},
		{inner(256, api.Cell{Page: 1}, api.Cell{Key: "xy", Page: 2}), "\x02\x00\x02\x00\x00\x01\x00\x00\x00\x00\x00\x01\x02xy\x00\x00\x00\x02"},
		{more(7, "abc"), "\x03\x00\x03\x00\x00\x00\x07abc"},
		{more(0, strings.Repeat("a", 505)), "\x03\x01\xf9\x00\x00\x00\x00" + strings.Repeat("a", 505)},
		{api.Node{Kind: api.NodeFree, First: 7}, "\x04\x00\x00\x00\x00\x00\x07"},
	} {
		if s, e := Put(c.n); s != filled(c.s) || e != api.OK {
			t.Errorf("%v: %x %d", c.n, s, e)
		}
	}
	full := leaf()
	for i := range 85 {
		full.Cells = append(full.Cells, api.Cell{Key: "kk" + string(rune('!'+i)), Local: ""})
	}
	if s, e := Put(full); Size(full) != 3+85*6 || s != "" || e != api.ErrFull {
		t.Error(Size(full), e)
	}
	full.Cells = full.Cells[1:]
	if s, e := Put(full); len(s) != 512 || e != api.OK {
		t.Error(e)
	}
}

func TestTake(t *testing.T) { // P10.3
	for _, s := range []string{
		"", filled("")[1:], filled("") + "\x00", filled(""), filled("\x05"),
		filled("\x01\x00\x00")[1:], filled("\x01\x00\x00") + "\x00",
		filled("\x01\x00\x00\x00\x01"), filled("\x01\x00\x02\x01k\x00\x00\x01k"), filled("\x01\x00\x02\x01k\x00\x00"),
		filled("\x01\xff\xff"), filled("\x01\x00\x01\x65" + key100 + "k"), filled("\x01\x00\x01\x00\x00\x65" + local),
		filled("\x01\x00\x01\x00\x0f\xa1" + local + "\x00\x00\x00\x01"), filled("\x01\x00\x01\x00\x00\x65" + local + "\x80\x00\x00\x01"),
		filled("\x02\x00\x00\x00\x00\x00\x01"), filled("\x02\x00\x01\x00\x00\x00\x00\x00\x00\x00\x00\x01"), filled("\x02\x00\x01\x00\x00\x00\x01\x00\x00\x00\x01\x01"),
		filled("\x03\x00\x00\x00\x00\x00\x01"), filled("\x03\x01\xfa"), filled("\x03\x00\x01\x00\x00\x00\x01ab"), filled("\x03\x00\x01\x00\x00\x01\x01a"),
		filled("\x04\x00\x01\x00\x00\x00\x07"), filled("\x04\x00\x00\x00\x00\x01\x01"), filled("\x04\x00\x00\x00\x00\x00\x07a"), filled("\x04\x00\x00\x00\x00\x00\x07")[:511] + "\x01",
	} {
		if n, e := Take(s); !reflect.DeepEqual(n, api.Node{}) || e != api.ErrBytes {
			t.Errorf("%.30x: %v %d", s, n, e)
		}
	}
	if n, e := Take(filled("\x04\x00\x00\x00\x00\x00\x07")); n.Kind != api.NodeFree || n.First != 7 || e != api.OK {
		t.Error(n, e)
	}
}

// random: a page that may be, perhaps too much for a page.
func random(r *rand.Rand) api.Node {
	text := func(n int) string { return strings.Repeat(string(rune('a'+r.Intn(26))), n) }
	keys := map[string]int{}
	for range 1 + r.Intn(8) {
		keys[text(r.Intn(101))] = 0
	}
	var cells []api.Cell
	kind := uint8(1 + r.Intn(4))
	for k := range keys {
		c := api.Cell{Key: k, Page: 1 + r.Intn(256)}
		if kind == api.NodeLeaf {
			c.Size = []int{r.Intn(100), 100, 101, 4000, r.Intn(4001)}[r.Intn(5)]
			c.Local = text(min(c.Size, 100))
			if c.Size <= 100 {
				c.Page = 0
			}
		}
		cells = append(cells, c)
	}
	slices.SortFunc(cells, func(a, b api.Cell) int { return strings.Compare(a.Key, b.Key) })
	switch kind {
	case api.NodeLeaf:
		return leaf(cells...)
	case api.NodeInner:
		return inner(1+r.Intn(256), cells...)
	case api.NodeMore:
		return more(r.Intn(257), text(1+r.Intn(505)))
	}
	return api.Node{Kind: kind, First: r.Intn(257)}
}

func TestThereAndBack(t *testing.T) { // P10.4
	r := rand.New(rand.NewSource(14))
	for range 5000 {
		n := random(r)
		s, e := Put(n)
		if Size(n) > api.PageSize {
			if s != "" || e != api.ErrFull {
				t.Fatal(n, e)
			}
			continue
		}
		if m, e := Take(s); !same(m, n) || e != api.OK || Size(n) == 0 || strings.Trim(s[Size(n):], "\x00") != "" {
			t.Fatal(n, m, e)
		}
		b := []byte(s)
		for range 1 + r.Intn(3) {
			b[r.Intn(Size(n))] = byte(r.Intn(256))
		}
		if m, e := Take(string(b)); e == api.OK {
			if u, _ := Put(m); u != string(b) {
				t.Fatalf("%x", b)
			}
		}
	}
}

func TestRoom(t *testing.T) { // P10.5
	two := leaf(api.Cell{Key: key100, Size: 4000, Local: local, Page: 256}, api.Cell{Key: key100[1:] + "l", Size: 4000, Local: local, Page: 256})
	four := inner(1)
	for _, c := range "abcd" {
		four.Cells = append(four.Cells, api.Cell{Key: key100[1:] + string(c), Page: 256})
	}
	for _, n := range []api.Node{two, four} {
		if s, e := Put(n); len(s) != 512 || e != api.OK {
			t.Error(n.Kind, e)
		}
	}
}
