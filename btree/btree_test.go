package btree

import (
	"math/rand"
	"slices"
	"strconv"
	"strings"
	"testing"

	"counterfoil/api"
	"counterfoil/files"
	"counterfoil/node"
	"counterfoil/pager"
	"counterfoil/space"
)

// begun: a pager of a new disk, in a transaction.
func begun(t testing.TB) *pager.Pager {
	t.Helper()
	p, e := pager.Open(files.New())
	if e != api.OK || space.Begin(p) != api.OK {
		t.Fatal("Open, Begin")
	}
	return p
}

func want(t testing.TB, what string, got, e api.Errno) {
	t.Helper()
	if got != e {
		t.Errorf("%s: %d, not %d", what, got, e)
	}
}

// put: the root behind Put, which must be OK.
func put(t testing.TB, p *pager.Pager, root int, key, text string) int {
	t.Helper()
	r, e := Put(p, root, key, text)
	if e != api.OK || r == 0 {
		t.Fatalf("Put %q: %d %d", key, r, e)
	}
	return r
}

// sound: fails unless the tree has just these keys and texts; how many pages it has.
func sound(t testing.TB, p *pager.Pager, root int, model map[string]string) int {
	t.Helper()
	keys, pages, e := Check(p, root)
	if e != api.OK || keys != len(model) || (root == 0) != (keys == 0) {
		t.Fatalf("Check: %d keys of %d, root %d: %d", keys, len(model), root, e)
	}
	last, n := "", 0
	for k, s := range All(p, root, "") {
		m, ok := model[k]
		if !ok || m != s || n > 0 && k <= last {
			t.Fatalf("All: %q", k)
		}
		last = k
		n++
	}
	if n != len(model) {
		t.Fatal("All:", n, len(model))
	}
	return pages
}

// accounted: fails unless the pages of trees, the free ones, and page 1 are all pages.
func accounted(t testing.TB, p *pager.Pager, pages int) {
	t.Helper()
	h, e := space.Read(p)
	if e != api.OK || pages+h.Count+1 != p.Pages() {
		t.Fatal("pages:", pages, h.Count, p.Pages(), e)
	}
}

func TestExamples(t *testing.T) {
	p := begun(t)
	_, e := Get(p, 0, "a")
	want(t, "Get", e, api.ErrNone)
	_, _, e = Next(p, 0, "")
	want(t, "Next", e, api.ErrNone)
	if k, n, e := Check(p, 0); k != 0 || n != 0 || e != api.OK {
		t.Error(k, n, e)
	}
	r := put(t, p, 0, "b", "1")
	if put(t, p, r, "a", "2") != r {
		t.Error("root")
	}
	if s, e := Get(p, r, "b"); s != "1" || e != api.OK {
		t.Error(s, e)
	}
	if k, s, e := Next(p, r, "aa"); k != "b" || s != "1" || e != api.OK {
		t.Error(k, s, e)
	}
	_, e = Put(p, r, strings.Repeat("k", 101), "")
	want(t, "Put", e, api.ErrLong)
	_, e = Put(p, r, "a", strings.Repeat("s", 4001))
	want(t, "Put", e, api.ErrLong)
	_, e = Delete(p, r, "c")
	want(t, "Delete", e, api.ErrNone)
	if n, e := Delete(p, r, "a"); n != r || e != api.OK {
		t.Error(n, e)
	}
	if n, e := Delete(p, r, "b"); n != 0 || e != api.OK {
		t.Error(n, e)
	}
	accounted(t, p, 0)
}

func TestErrors(t *testing.T) { // P12.1 to P12.4: what is refused
	long := strings.Repeat("k", 101)
	_, e := Get(nil, 0, "")
	want(t, "Get", e, api.ErrNil)
	_, _, e = Next(nil, 0, "")
	want(t, "Next", e, api.ErrNil)
	for range All(nil, 2, "") {
		t.Error("All of nil")
	}
	_, e = Put(nil, 0, long, "")
	want(t, "Put", e, api.ErrNil)
	_, e = Delete(nil, 0, long)
	want(t, "Delete", e, api.ErrNil)
	want(t, "Drop", Drop(nil, 0), api.ErrNil)
	_, _, e = Check(nil, 0)
	want(t, "Check", e, api.ErrNil)
	p := begun(t)
	r := put(t, p, 0, "a", "1")
	space.Commit(p)
	_, e = Put(p, r, "a", "2")
	want(t, "Put", e, api.ErrState)
	_, e = Put(p, 99, long, "2")
	want(t, "Put", e, api.ErrLong)
	_, e = Delete(p, r, "b")
	want(t, "Delete", e, api.ErrState)
	_, e = Delete(p, 99, long)
	want(t, "Delete", e, api.ErrLong)
	_, e = Delete(p, 0, "b")
	want(t, "Delete", e, api.ErrState)
	want(t, "Drop", Drop(p, 0), api.ErrState)
	want(t, "Drop", Drop(p, r), api.ErrState)
	p = begun(t)
	r = put(t, p, 0, "a", "1")
	for _, k := range []string{long, "b"} { // with an error the root is 0
		if n, e := Delete(p, r, k); n != 0 || e == api.OK {
			t.Error(n, e)
		}
		if n, e := Put(p, 99, k, ""); n != 0 || e == api.OK {
			t.Error(n, e)
		}
	}
	if s, e := Get(p, r, "a"); s != "1" || e != api.OK {
		t.Error(s, e)
	}
	if _, e := Get(p, r, long); e != api.ErrNone {
		t.Error(e)
	}
}

func TestLong(t *testing.T) { // P12.2: the longest keys and texts
	p := begun(t)
	model := map[string]string{}
	root := 0
	for i := range 12 {
		k := strings.Repeat("k", 97) + strconv.Itoa(100+i)
		model[k] = strings.Repeat(string(rune('a'+i)), []int{4000, 100, 101, 0, 605, 606, 3999, 99}[i%8])
		root = put(t, p, root, k, model[k])
		accounted(t, p, sound(t, p, root, model))
	}
	root = put(t, p, root, "", "the key of no bytes")
	model[""] = "the key of no bytes"
	accounted(t, p, sound(t, p, root, model))
	if k, _, _ := Next(p, root, ""); k != "" {
		t.Errorf("%q", k)
	}
}

func TestAll(t *testing.T) { // P12.1
	p := begun(t)
	root := 0
	var keys []string
	for i := range 300 {
		k := strconv.Itoa(1000 + 2*i)
		keys = append(keys, k)
		root = put(t, p, root, k, "t"+k)
	}
	for _, from := range []string{"", "1000", "1001", "13", "1598", "1599", "2", "1200\x00"} {
		i, _ := slices.BinarySearch(keys, from)
		var got []string
		for k, s := range All(p, root, from) {
			if s != "t"+k {
				t.Fatal(k, s)
			}
			got = append(got, k)
		}
		if !slices.Equal(got, keys[i:]) {
			t.Error(from, len(got), len(keys)-i)
		}
		k, s, e := Next(p, root, from)
		if i == len(keys) {
			want(t, "Next", e, api.ErrNone)
		} else if k != keys[i] || s != "t"+k || e != api.OK {
			t.Error(from, k, s, e)
		}
	}
	n := 0
	for range All(p, root, "") {
		if n++; n == 5 {
			break
		}
	}
	if n != 5 {
		t.Error("what is left is left:", n)
	}
}

func TestRising(t *testing.T) { // rising keys fill their pages
	p := begun(t)
	root, n := 0, 0
	for ; ; n++ {
		r, e := Put(p, root, strconv.Itoa(100000+n), "0123456789")
		if e == api.ErrFull {
			break
		}
		if e != api.OK {
			t.Fatal(e)
		}
		root = r
	}
	if n < 240*26 {
		t.Error("room for", n)
	}
}

// same: whether two pagers have the same pages.
func pages(t testing.TB, p *pager.Pager) []string {
	t.Helper()
	var l []string
	for n := 1; n <= p.Pages(); n++ {
		s, e := p.Read(n)
		if e != api.OK {
			t.Fatal(e)
		}
		l = append(l, s)
	}
	return l
}

func TestFull(t *testing.T) { // P12.2: where there is no room nothing has become otherwise
	for seed := range int64(6) {
		r := rand.New(rand.NewSource(seed))
		p := begun(t)
		model := map[string]string{}
		root, full := 0, 0
		for full < 60 {
			k := strings.Repeat("k", r.Intn(90)) + strconv.Itoa(r.Intn(1000))
			s := strings.Repeat("s", r.Intn(2)*r.Intn(2000))
			before := pages(t, p)
			n, e := Put(p, root, k, s)
			if e == api.OK {
				root, model[k] = n, s
				continue
			}
			full++
			if e != api.ErrFull || n != 0 || !slices.Equal(pages(t, p), before) {
				t.Fatal("Put:", n, e)
			}
			if old, ok := model[k]; ok && len(old) >= len(s) {
				t.Fatal("there was room for", k)
			}
		}
		accounted(t, p, sound(t, p, root, model))
		for k := range model { // all can be deleted again
			n, e := Delete(p, root, k)
			if e == api.ErrFull {
				continue
			}
			if e != api.OK {
				t.Fatal("Delete:", e)
			}
			root = n
			delete(model, k)
		}
		accounted(t, p, sound(t, p, root, model))
		if len(model) > 0 {
			t.Error("left:", len(model))
		}
	}
}

func TestModel(t *testing.T) { // P12.5, P12.6
	for seed := range int64(40) {
		r := rand.New(rand.NewSource(seed))
		p := begun(t)
		roots := []int{0, 0}
		models := []map[string]string{{}, {}}
		width := []int{1, 8, 40, 97}[seed%4]
		for step := range 700 {
			i := r.Intn(2)
			k := strings.Repeat("k", r.Intn(width)) + strconv.Itoa(r.Intn(60))
			shrink := step/100%2 == 1
			if old, ok := models[i][k]; r.Intn(3) > 0 != shrink {
				s := strings.Repeat(string(rune('a'+r.Intn(26))), []int{0, r.Intn(20), r.Intn(120), r.Intn(1200)}[r.Intn(4)])
				n, e := Put(p, roots[i], k, s)
				if e == api.ErrFull {
					continue
				}
				if e != api.OK {
					t.Fatal("Put:", e)
				}
				roots[i], models[i][k] = n, s
			} else if n, e := Delete(p, roots[i], k); !ok {
				if n != 0 || e != api.ErrNone {
					t.Fatal("Delete:", n, e)
				}
			} else if e != api.OK {
				t.Fatal("Delete:", e, old)
			} else {
				roots[i] = n
				delete(models[i], k)
			}
			for k, s := range models[i] {
				if got, e := Get(p, roots[i], k); got != s || e != api.OK {
					t.Fatal("Get:", k, e)
				}
				break
			}
			if step%10 == 0 {
				accounted(t, p, sound(t, p, roots[0], models[0])+sound(t, p, roots[1], models[1]))
			}
		}
		want(t, "Drop", Drop(p, roots[0]), api.OK)
		accounted(t, p, sound(t, p, roots[1], models[1]))
		want(t, "Drop", Drop(p, roots[1]), api.OK)
		accounted(t, p, 0)
	}
}

// laid: a pager in a transaction that has these pages behind the header.
func laid(t testing.TB, nodes ...api.Node) *pager.Pager {
	p := begun(t)
	p.Resize(1 + len(nodes))
	for i, n := range nodes {
		s, e := node.Put(n)
		if e != api.OK {
			t.Fatal(e)
		}
		p.Write(2+i, s)
	}
	return p
}

func leaf(keys ...string) api.Node {
	n := api.Node{Kind: api.NodeLeaf}
	for _, k := range keys {
		n.Cells = append(n.Cells, api.Cell{Key: k})
	}
	return n
}

func inner(first int, cells ...api.Cell) api.Node {
	return api.Node{Kind: api.NodeInner, First: first, Cells: cells}
}

func big(key string, page, size int) api.Node {
	return api.Node{Kind: api.NodeLeaf, Cells: []api.Cell{{Key: key, Size: size, Local: strings.Repeat("l", 100), Page: page}}}
}

func to(key string, page int) api.Cell { return api.Cell{Key: key, Page: page} }

func TestUnsound(t *testing.T) { // P12.4
	some := api.Node{Kind: api.NodeMore, Data: "12345"}
	for i, c := range [][]api.Node{
		{leaf()},
		{some},
		{{Kind: api.NodeFree}},
		{inner(3, to("m", 3)), leaf("a")}, // a page twice
		{inner(2, to("m", 3)), leaf("x")}, // round in a circle
		{inner(3, to("m", 4)), leaf("a"), leaf()},                           // a leaf without cells
		{inner(3, to("m", 4)), leaf("n"), leaf("x")},                        // not below
		{inner(3, to("m", 4)), leaf("a"), leaf("b")},                        // below
		{inner(3, to("m", 4)), leaf("m"), leaf("x")},                        // not below
		{inner(3, to("m", 4), to("p", 5)), leaf("a"), leaf("p"), leaf("q")}, // not below the next one
		{inner(3, to("m", 4)), leaf("a"), inner(5, to("p", 6)), leaf("n"), leaf("q")},
		{inner(3, to("m", 4)), inner(5, to("z", 6)), inner(7, to("p", 8)), leaf("a"), leaf("z"), leaf("n"), leaf("q")},
		{inner(3, to("m", 4)), inner(5, to("c", 6)), inner(7, to("b", 8)), leaf("a"), leaf("d"), leaf("m"), leaf("q")},
		{inner(3, to("m", 9)), leaf("a")},
		{inner(1, to("m", 3)), leaf("n")},
		{big("a", 1, 105)},
		{big("a", 9, 105)},
		{big("a", 2, 105)},
		{big("a", 3, 106), some},
		{big("a", 3, 104), some},
		{big("a", 3, 110), {Kind: api.NodeMore, First: 3, Data: "12345"}},
		{big("a", 3, 105), {Kind: api.NodeMore, First: 4, Data: "12345"}, some},
		{big("a", 3, 110), some, some},
	} {
		p := laid(t, c...)
		if k, n, e := Check(p, 2); k != 0 || n != 0 || e != api.ErrBytes {
			t.Error(i, k, n, e)
		}
		want(t, "Drop "+strconv.Itoa(i), Drop(p, 2), api.ErrBytes)
	}
	p := laid(t, inner(3, to("m", 4)), big("a", 5, 110), leaf("m", "n"), api.Node{Kind: api.NodeMore, First: 6, Data: "12345"}, some)
	if k, n, e := Check(p, 2); k != 3 || n != 5 || e != api.OK {
		t.Error(k, n, e)
	}
	for _, root := range []int{-1, 1, 7, 1 << 40} {
		_, _, e := Check(p, root)
		want(t, "Check", e, api.ErrBytes)
		_, e = Get(p, root, "a")
		want(t, "Get", e, api.ErrBytes)
		_, _, e = Next(p, root, "a")
		want(t, "Next", e, api.ErrBytes)
		_, e = Put(p, root, "a", "")
		want(t, "Put", e, api.ErrBytes)
		_, e = Delete(p, root, "a")
		want(t, "Delete", e, api.ErrBytes)
	}
}

// keyOf: a key of so many bytes that begins so.
func keyOf(s string, size int) string { return s + strings.Repeat("k", size-len(s)) }

func TestShared(t *testing.T) { // an inner page that is left with one page gets some of the one beside it
	for _, short := range []int{0, 44} { // with so many short keys above: a longer one between is too much, then
		for _, behind := range []bool{false, true} {
			// Two inner pages: one full of long keys, one that will be left with one page.
			var nodes []api.Node
			add := func(n api.Node) int {
				nodes = append(nodes, n)
				return len(nodes) + 2 // the root is page 2
			}
			full := func(s string) int {
				n := inner(add(leaf(s)))
				for i, size := range []int{100, 100, 100, 100, 75} {
					k := keyOf(s+string(rune('a'+i)), size)
					n.Cells = append(n.Cells, to(k, add(leaf(k))))
				}
				return add(n)
			}
			two := func(s string) int {
				a := add(leaf(s))
				return add(inner(a, to(s+"m", add(leaf(s+"m")))))
			}
			root := inner(0)
			victim := "f"
			if behind {
				root.First = two("f")
				root.Cells = append(root.Cells, to("g", full("g")))
			} else {
				root.First = full("e")
				root.Cells = append(root.Cells, to("f", two("f")))
			}
			for i := range short {
				s := "h" + string(rune('0'+i/6)) + string(rune('0'+i%6)) + "sss"
				root.Cells = append(root.Cells, to(s, two(s)))
			}
			p := laid(t, append([]api.Node{root}, nodes...)...)
			model := map[string]string{}
			for k := range All(p, 2, "") {
				model[k] = ""
			}
			accounted(t, p, sound(t, p, 2, model))
			r, e := Delete(p, 2, victim)
			delete(model, victim)
			if e != api.OK {
				t.Fatal("Delete:", e)
			}
			accounted(t, p, sound(t, p, r, model))
			if (r == 2) != (short == 0) {
				t.Error("a root that is too much is split:", short, r)
			}
		}
	}
}

func TestDeep(t *testing.T) { // 20 pages from a root to a leaf
	for _, deep := range []int{20, 21} {
		var nodes []api.Node
		for i := range deep - 1 {
			nodes = append(nodes, inner(2+i+1, to("m", 100+i)))
		}
		nodes = append(nodes, leaf("a"))
		p := begun(t)
		p.Resize(250)
		for i, n := range nodes {
			s, _ := node.Put(n)
			p.Write(2+i, s)
		}
		_, e := Get(p, 2, "a")
		if deep == 20 {
			want(t, "Get", e, api.OK)
		} else {
			want(t, "Get", e, api.ErrBytes)
		}
	}
}

func TestEnds(t *testing.T) { // R1: of trees that are not sound each call ends
	r := rand.New(rand.NewSource(15))
	for range 2000 {
		var nodes []api.Node
		for range 1 + r.Intn(5) {
			k := 1 + r.Intn(6)
			var keys []string
			for range k {
				keys = append(keys, string(rune('a'+r.Intn(26))))
			}
			slices.Sort(keys)
			keys = slices.Compact(keys)
			page := func() int { return 1 + r.Intn(7) }
			switch r.Intn(4) {
			case 0:
				nodes = append(nodes, leaf(keys...))
			case 1:
				nodes = append(nodes, big(keys[0], page(), 101+r.Intn(30)))
			case 2:
				nodes = append(nodes, api.Node{Kind: api.NodeMore, First: r.Intn(7), Data: strings.Repeat("d", 1+r.Intn(12))})
			default:
				n := inner(page())
				for _, k := range keys {
					n.Cells = append(n.Cells, to(k, page()))
				}
				nodes = append(nodes, n)
			}
		}
		p := laid(t, nodes...)
		k := string(rune('a' + r.Intn(26)))
		Get(p, 2, k)
		Next(p, 2, k)
		Check(p, 2)
		n, last := 0, ""
		for k := range All(p, 2, "") {
			if n > 0 && k <= last {
				t.Fatal("not rising")
			}
			n, last = n+1, k
		}
		switch r.Intn(3) {
		case 0:
			Put(p, 2, k, strings.Repeat("x", r.Intn(1000)))
		case 1:
			Delete(p, 2, k)
		default:
			Drop(p, 2)
		}
	}
}

func TestUndone(t *testing.T) { // what is done in a transaction is undone by Back
	p := begun(t)
	root := 0
	for i := range 100 {
		root = put(t, p, root, strconv.Itoa(i), "x")
	}
	before := pages(t, p)
	k, _ := p.Save()
	r := root
	for i := range 100 {
		r, _ = Delete(p, r, strconv.Itoa(i))
	}
	accounted(t, p, 0)
	p.Back(k)
	if !slices.Equal(pages(t, p), before) {
		t.Error("otherwise")
	}
}
