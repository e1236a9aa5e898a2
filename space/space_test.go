package space

import (
	"math/rand"
	"strings"
	"testing"

	"counterfoil/api"
	"counterfoil/files"
	"counterfoil/node"
	"counterfoil/pager"
)

func opened(t *testing.T, d *files.Disk) *pager.Pager {
	t.Helper()
	p, e := pager.Open(d)
	if e != api.OK {
		t.Fatal("Open:", e)
	}
	return p
}

// begun: a pager of a new disk, in a transaction.
func begun(t *testing.T) *pager.Pager {
	t.Helper()
	p := opened(t, files.New())
	want(t, "Begin", Begin(p), api.OK)
	return p
}

func want(t *testing.T, what string, got, e api.Errno) {
	t.Helper()
	if got != e {
		t.Errorf("%s: %d, not %d", what, got, e)
	}
}

// alloc: fails unless Alloc answers that.
func alloc(t *testing.T, p *pager.Pager, n int, e api.Errno) {
	t.Helper()
	if m, f := Alloc(p); m != n || f != e {
		t.Errorf("Alloc: %d %d, not %d %d", m, f, n, e)
	}
}

func read(t *testing.T, p *pager.Pager) api.Header {
	t.Helper()
	h, e := Read(p)
	if e != api.OK {
		t.Fatal("Read:", e)
	}
	return h
}

func filled(s string) string { return s + strings.Repeat("\x00", api.PageSize-len(s)) }

func TestPut(t *testing.T) { // P11.1
	for _, h := range []api.Header{
		{Free: 1}, {Free: -1}, {Free: 257}, {Count: -1}, {Count: 257}, {Roots: [8]int{7: 257}}, {Roots: [8]int{-1}},
	} {
		if s, e := Put(h); s != "" || e != api.ErrArg {
			t.Error(h, e)
		}
	}
	h := api.Header{Free: 256, Count: 3, Commits: 1<<40 + 5, Roots: [8]int{1, 0, 256, 7: 9}}
	s, e := Put(h)
	w := filled("cf-pages\x00\x00\x01\x00\x00\x00\x00\x03\x00\x00\x01\x00\x00\x00\x00\x05" +
		"\x00\x00\x00\x01\x00\x00\x00\x00\x00\x00\x01\x00" + strings.Repeat("\x00", 16) + "\x00\x00\x00\x09")
	if s != w || e != api.OK {
		t.Errorf("%x %d", s, e)
	}
	if g, e := Take(s); g != h || e != api.OK {
		t.Error(g, e)
	}
}

func TestTake(t *testing.T) { // P11.1
	good, _ := Put(api.Header{Free: 2})
	turned := func(at int, c byte) string {
		b := []byte(good)
		b[at] = c
		return string(b)
	}
	for _, s := range []string{
		"", filled(""), good[1:], good + "\x00", turned(0, 'x'), turned(11, 1), turned(10, 2), turned(8, 255), turned(14, 2), turned(52, 1), turned(53, 2), turned(56, 1), turned(511, 1),
	} {
		if h, e := Take(s); h != (api.Header{}) || e != api.ErrBytes {
			t.Errorf("%.60x: %v %d", s, h, e)
		}
	}
}

func TestRead(t *testing.T) { // P11.2
	if h, e := Read(nil); h != (api.Header{}) || e != api.ErrNil {
		t.Error(e)
	}
	d := files.New()
	p := opened(t, d)
	if read(t, p) != (api.Header{}) {
		t.Error("without pages it is all zero")
	}
	Begin(p)
	SetRoot(p, 3, 1)
	if read(t, p) != (api.Header{Roots: [8]int{3: 1}}) {
		t.Error("in the transaction")
	}
	p.Rollback()
	p.Begin()
	p.Resize(1)
	if h, e := Read(p); h != (api.Header{}) || e != api.ErrBytes {
		t.Error(e)
	}
	p.Commit()
	want(t, "Checkpoint", p.Checkpoint(), api.OK)
	p = opened(t, d)
	d.Power(0)
	d.Sync(0)
	if h, e := Read(p); h != (api.Header{}) || e != api.ErrOff {
		t.Error(e)
	}
	_, e := Alloc(p)
	want(t, "Alloc: Read's error ahead of ErrState", e, api.ErrOff)
}

func TestBegin(t *testing.T) { // P11.3
	want(t, "nil", Begin(nil), api.ErrNil)
	p := begun(t)
	want(t, "Begin", Begin(p), api.ErrState)
	if p.Pages() != 1 || read(t, p) != (api.Header{}) {
		t.Error(p.Pages())
	}
	want(t, "Commit", Commit(p), api.OK)
	p.Begin()
	p.Write(1, filled("x"))
	p.Commit()
	want(t, "Begin", Begin(p), api.ErrBytes)
	want(t, "rolled back", p.Rollback(), api.ErrState)
	want(t, "Free", Free(p, 2), api.ErrBytes)
	want(t, "SetRoot", SetRoot(p, 0, 0), api.ErrBytes)
	want(t, "Commit", Commit(p), api.ErrBytes)
}

func TestExamples(t *testing.T) {
	p := begun(t)
	alloc(t, p, 2, api.OK)
	alloc(t, p, 3, api.OK)
	want(t, "Free", Free(p, 2), api.OK)
	alloc(t, p, 2, api.OK)
	alloc(t, p, 4, api.OK)
	want(t, "Free", Free(p, 1), api.ErrRange)
	want(t, "Free", Free(p, 5), api.ErrRange)
	want(t, "SetRoot", SetRoot(p, 8, 0), api.ErrArg)
	want(t, "SetRoot", SetRoot(p, 0, 5), api.ErrArg)
	want(t, "SetRoot", SetRoot(p, 7, 4), api.OK)
	want(t, "Commit", Commit(p), api.OK)
	if read(t, p) != (api.Header{Commits: 1, Roots: [8]int{7: 4}}) {
		t.Error(read(t, p))
	}
	alloc(t, p, 0, api.ErrState)
}

func TestState(t *testing.T) { // P11.4, P11.5
	alloc(t, nil, 0, api.ErrNil)
	want(t, "Free", Free(nil, 0), api.ErrNil)
	want(t, "SetRoot", SetRoot(nil, -1, 0), api.ErrNil)
	want(t, "Commit", Commit(nil), api.ErrNil)
	p := opened(t, files.New())
	alloc(t, p, 0, api.ErrState)
	want(t, "Free", Free(p, 1), api.ErrState)
	want(t, "SetRoot", SetRoot(p, -1, 0), api.ErrState)
	want(t, "Commit", Commit(p), api.ErrState)
}

func TestAllocFree(t *testing.T) { // P11.4
	p := begun(t)
	for n := 2; n <= api.MaxPages; n++ {
		alloc(t, p, n, api.OK)
	}
	alloc(t, p, 0, api.ErrFull)
	for _, n := range []int{0, 1, -1, 257} {
		want(t, "Free", Free(p, n), api.ErrRange)
	}
	want(t, "Free", Free(p, 7), api.OK)
	want(t, "Free", Free(p, 256), api.OK)
	s, _ := p.Read(256)
	if n, e := node.Take(s); n.Kind != api.NodeFree || n.First != 7 || e != api.OK || read(t, p) != (api.Header{Free: 256, Count: 2}) {
		t.Error(n, e, read(t, p))
	}
	alloc(t, p, 256, api.OK)
	if read(t, p) != (api.Header{Free: 7, Count: 1}) {
		t.Error(read(t, p))
	}
	alloc(t, p, 7, api.OK)
	alloc(t, p, 0, api.ErrFull)
	for range 300 {
		Free(p, 9)
	}
	if read(t, p).Count != api.MaxPages {
		t.Error("no more than MaxPages:", read(t, p))
	}
	for _, c := range [][3]int{{-1, 0, 2}, {8, 0, 2}, {0, -1, 2}, {0, 257, 2}, {0, 256, 0}, {7, 0, 0}} {
		want(t, "SetRoot", SetRoot(p, c[0], c[1]), api.Errno(c[2]))
	}
}

func TestAllocBytes(t *testing.T) { // P11.4: free pages that are none
	for i, c := range []struct {
		h api.Header
		n api.Node
	}{
		{api.Header{Free: 3, Count: 1}, api.Node{Kind: api.NodeFree}}, // no such page
		{api.Header{Free: 2, Count: 1}, api.Node{Kind: api.NodeLeaf}},
		{api.Header{Free: 2, Count: 0}, api.Node{Kind: api.NodeFree}},
		{api.Header{Free: 2, Count: 1}, api.Node{Kind: api.NodeFree, First: 1}},
	} {
		p := begun(t)
		p.Resize(2)
		s, _ := Put(c.h)
		p.Write(1, s)
		s, _ = node.Put(c.n)
		p.Write(2, s)
		alloc(t, p, 0, api.ErrBytes)
		if read(t, p) != c.h {
			t.Error(i, read(t, p))
		}
	}
}

func TestCommit(t *testing.T) { // P11.5
	p := begun(t)
	want(t, "Commit", Commit(p), api.OK)
	for i := range 3 {
		want(t, "Begin", Begin(p), api.OK)
		want(t, "Commit", Commit(p), api.OK)
		if read(t, p).Commits != uint64(i+2) {
			t.Error(read(t, p))
		}
	}
	Begin(p)
	s, _ := Put(api.Header{Commits: ^uint64(0)})
	p.Write(1, s)
	want(t, "Commit", Commit(p), api.OK)
	if read(t, p).Commits != 0 {
		t.Error("modulo 2^64")
	}
}

func TestCommitFails(t *testing.T) { // P11.5
	d := files.New()
	p := opened(t, d)
	Begin(p)
	d.Arm(0, api.ErrSpace)
	want(t, "Commit", Commit(p), api.ErrSpace)
	if p.Pages() != 0 {
		t.Error(p.Pages())
	}
}

// walked: the free pages, by the row that they make.
func walked(t *testing.T, p *pager.Pager) []int {
	t.Helper()
	var l []int
	for n := read(t, p).Free; n != 0; {
		s, _ := p.Read(n)
		f, e := node.Take(s)
		if e != api.OK || f.Kind != api.NodeFree || len(l) > api.MaxPages {
			t.Fatal("free:", n, e)
		}
		l = append(l, n)
		n = f.First
	}
	return l
}

func TestModel(t *testing.T) { // P11.6, P11.7
	for seed := range int64(60) {
		r := rand.New(rand.NewSource(seed))
		p := begun(t)
		mine, saved := map[int]int{}, map[int]int{}
		keep := func(to, from map[int]int) {
			clear(to)
			for n := range from {
				to[n] = n
			}
		}
		committed := map[int]int{}
		p.Save()
		for range 300 {
			switch k := r.Intn(20); {
			case k < 10:
				n, e := Alloc(p)
				if e != api.OK || n < 2 || mine[n] != 0 {
					t.Fatal("Alloc:", n, e)
				}
				p.Write(n, filled("mine"))
				mine[n] = n
			case k < 17:
				for n := range mine {
					want(t, "Free", Free(p, n), api.OK)
					delete(mine, n)
					break
				}
			case k == 17:
				p.Back(1)
				keep(mine, saved)
			case k == 18:
				p.Release(1)
				p.Save()
				keep(saved, mine)
			case r.Intn(2) == 0:
				want(t, "Commit", Commit(p), api.OK)
				keep(committed, mine)
				Begin(p)
				p.Save()
				keep(saved, mine)
			default:
				p.Rollback()
				keep(mine, committed)
				Begin(p)
				p.Save()
				keep(saved, mine)
			}
			free := walked(t, p)
			if len(free) != read(t, p).Count || len(free)+len(mine)+1 != p.Pages() {
				t.Fatal(len(free), len(mine), p.Pages(), read(t, p).Count)
			}
			for _, n := range free {
				if mine[n] != 0 {
					t.Fatal("free, and somebody's:", n)
				}
			}
		}
	}
}
