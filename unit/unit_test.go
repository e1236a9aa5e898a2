package unit

import (
	"math/rand"
	"slices"
	"strings"
	"testing"

	"counterfoil/api"
	"counterfoil/files"
	"counterfoil/pager"
	"counterfoil/ship"
	"counterfoil/space"
)

func want(t testing.TB, what string, got, e api.Errno) {
	t.Helper()
	if got != e {
		t.Errorf("%s: %d, not %d", what, got, e)
	}
}

// fresh: a pager of a new disk, and the disk.
func fresh(t testing.TB) (*pager.Pager, *files.Disk) {
	t.Helper()
	d := files.New()
	p, e := pager.Open(d)
	if e != api.OK {
		t.Fatal("Open:", e)
	}
	return p, d
}

func page(c string) string { return strings.Repeat(c, api.PageSize) }

// commit: a transaction in which there are so many pages, and these have that letter.
func commit(t testing.TB, p *pager.Pager, pages int, c string, written ...int) {
	t.Helper()
	if e := space.Begin(p); e != api.OK {
		t.Fatal("Begin:", e)
	}
	p.Resize(pages)
	for _, n := range written {
		p.Write(n, page(c))
	}
	if e := space.Commit(p); e != api.OK {
		t.Fatal("Commit:", e)
	}
}

// two: a database with the commits 1 and 2, of which the second one turned page 2 alone, besides page 1.
func two(t testing.TB) (*pager.Pager, *files.Disk) {
	p, d := fresh(t)
	commit(t, p, 3, "a", 2, 3)
	commit(t, p, 3, "b", 2)
	return p, d
}

// told: all pages.
func told(t testing.TB, p *pager.Pager) (l []string) {
	t.Helper()
	for n := 1; n <= p.Pages(); n++ {
		s, e := p.Read(n)
		if e != api.OK {
			t.Fatal(e)
		}
		l = append(l, s)
	}
	return l
}

// pagesOf: the pages of a unit's images.
func pagesOf(m api.Ship) (l []int) {
	for _, x := range m.Images {
		l = append(l, x.Page)
	}
	return l
}

func TestExamples(t *testing.T) { // P27.1 to P27.4
	p, _ := two(t)
	if n, e := Have(p); n != 2 || e != api.OK {
		t.Error(n, e)
	}
	one, e := Next(p, 1, 0)
	if one.K != 1 || one.Epoch != 1 || one.Full || one.Pages != 3 || !slices.Equal(pagesOf(one), []int{1, 2, 3}) || one.Images[1].Data != page("a") || e != api.OK {
		t.Error(one.K, pagesOf(one), e)
	}
	next, e := Next(p, 1, 1)
	if next.K != 2 || next.Full || next.Pages != 3 || !slices.Equal(pagesOf(next), []int{1, 2}) || next.Images[1].Data != page("b") || e != api.OK {
		t.Error(next.K, pagesOf(next), e)
	}
	for _, k := range []uint64{2, 3, 1 << 63, ^uint64(0)} {
		if m, e := Next(p, 1, k); !ship.Same(m, api.Ship{}) || e != api.ErrNone {
			t.Error(k, e)
		}
	}
	q, _ := fresh(t)
	want(t, "Follow", Follow(q, next), api.ErrRange)
	want(t, "Follow", Follow(q, one), api.OK)
	want(t, "Follow", Follow(q, next), api.OK)
	want(t, "Follow", Follow(q, one), api.ErrNone)
	want(t, "Follow", Follow(q, next), api.ErrNone)
	if !slices.Equal(told(t, q), told(t, p)) {
		t.Error("not like it")
	}
	want(t, "Follow", Follow(q, api.Ship{Kind: api.ShipAck}), api.ErrArg)
	want(t, "Checkpoint", p.Checkpoint(), api.OK)
	for k := range uint64(2) {
		m, e := Next(p, 7, k)
		if m.K != 2 || m.Epoch != 7 || !m.Full || m.Pages != 3 || !slices.Equal(pagesOf(m), []int{1, 2, 3}) || e != api.OK {
			t.Error(k, m.K, m.Full, e)
		}
		s, _ := Snap(p, 7)
		if !ship.Same(m, s) {
			t.Error("Snap's")
		}
	}
	_, e = Next(p, 1, 2)
	want(t, "Next", e, api.ErrNone)
}

func TestState(t *testing.T) { // ErrNil, ErrState, Read's error
	_, e := Have(nil)
	want(t, "Have", e, api.ErrNil)
	_, e = Next(nil, 0, 0)
	want(t, "Next", e, api.ErrNil)
	_, e = Snap(nil, 0)
	want(t, "Snap", e, api.ErrNil)
	want(t, "Follow", Follow(nil, api.Ship{}), api.ErrNil)
	p, d := two(t)
	m, _ := Snap(p, 0)
	check := func(want api.Errno) {
		t.Helper()
		_, e := Have(p)
		_, f := Next(p, 0, 0)
		_, g := Snap(p, 0)
		if h := Follow(p, m); e != want || f != want || g != want || h != want {
			t.Error(e, f, g, h)
		}
		if h := Follow(p, api.Ship{}); h != api.ErrArg {
			t.Error("ErrArg ahead:", h)
		}
	}
	p.Begin()
	check(api.ErrState)
	p.Write(1, page("x"))
	check(api.ErrState)
	p.Commit()
	check(api.ErrBytes)
	p, d = two(t)
	p.Checkpoint()
	d.Power(0)
	d.Sync(0)
	check(api.ErrOff)
	p, _ = fresh(t)
	if n, e := Have(p); n != 0 || e != api.OK {
		t.Error(n, e)
	}
	_, e = Next(p, 0, 0)
	want(t, "Next", e, api.ErrNone)
	_, e = Snap(p, 0)
	want(t, "Snap", e, api.ErrNone)
}

func TestNextLast(t *testing.T) { // P27.2: the last frames of a commit, and pages that are gone
	p, _ := two(t)
	h, _ := space.Read(p)
	p.Begin() // a transaction that space.Commit does not end: the header is the same
	p.Write(3, page("c"))
	p.Commit()
	if m, e := Next(p, 0, 1); !slices.Equal(pagesOf(m), []int{1, 2}) || e != api.OK {
		t.Error("frames without page 1 have no commit:", pagesOf(m), e)
	}
	p.Begin()
	s, _ := space.Put(h)
	p.Write(1, s)
	p.Write(3, page("d"))
	p.Commit()
	if m, e := Next(p, 0, 1); !slices.Equal(pagesOf(m), []int{1, 3}) || m.K != 2 || e != api.OK {
		t.Error("the last ones:", pagesOf(m), e)
	}
	commit(t, p, 2, "e")
	if m, e := Next(p, 0, 2); !slices.Equal(pagesOf(m), []int{1}) || m.Pages != 2 || e != api.OK {
		t.Error(pagesOf(m), m.Pages, e)
	}
	q, _ := fresh(t)
	m, _ := Snap(p, 0)
	want(t, "Follow", Follow(q, m), api.OK)
	commit(t, p, 4, "f", 3)
	m, _ = Next(p, 0, 3)
	want(t, "Follow", Follow(q, m), api.OK)
	if !slices.Equal(told(t, q), told(t, p)) || !slices.Equal(pagesOf(m), []int{1, 3, 4}) {
		t.Error("not like it", pagesOf(m))
	}
}

func TestFollowRefused(t *testing.T) { // P27.4
	p, _ := two(t)
	m, _ := Next(p, 0, 0)
	header := func(k uint64) string {
		s, _ := space.Put(api.Header{Commits: k})
		return s
	}
	q, d := fresh(t)
	for i, c := range []struct {
		change func(m *api.Ship)
		e      api.Errno
	}{
		{func(m *api.Ship) { m.K = 0 }, api.ErrArg}, {func(m *api.Ship) { m.Pages = 2 }, api.ErrArg}, {func(m *api.Ship) { m.K = 2 }, api.ErrRange}, {func(m *api.Ship) { m.K, m.Images = 2, nil }, api.ErrRange},
		{func(m *api.Ship) { m.Images = nil }, api.ErrBytes}, {func(m *api.Ship) { m.Images = m.Images[1:] }, api.ErrBytes}, {func(m *api.Ship) { m.Images[0].Data = page("x") }, api.ErrBytes}, {func(m *api.Ship) { m.Images[0].Data = header(2) }, api.ErrBytes}, {func(m *api.Ship) { m.K, m.Full = 2, true }, api.ErrBytes},
	} {
		n := m
		n.Images = slices.Clone(m.Images)
		c.change(&n)
		if e := Follow(q, n); e != c.e || q.Pages() != 0 || d.Ops() != 0 {
			t.Error(i, e)
		}
	}
	n := m
	n.K, n.Full, n.Images = 9, true, slices.Clone(m.Images)
	n.Images[0].Data = header(9)
	for k := range 4 {
		d.Arm(k, api.ErrIO)
		want(t, "Follow", Follow(q, n), api.ErrIO)
		if q.Pages() != 0 || q.Rollback() != api.ErrState {
			t.Error("nothing is otherwise")
		}
		d.Crash(nil)
		q, _ = pager.Open(d)
	}
	want(t, "Follow", Follow(q, n), api.OK)
	if k, _ := Have(q); k != 9 {
		t.Error(k)
	}
	want(t, "Follow", Follow(q, m), api.ErrNone)
}

func TestLike(t *testing.T) { // P27.5, P27.6
	for seed := range int64(60) {
		r := rand.New(rand.NewSource(seed))
		p, _ := fresh(t)
		q, d := fresh(t)
		states := [][]string{nil}
		var units []api.Ship
		have := uint64(0)
		for range 120 {
			switch r.Intn(6) {
			case 0, 1:
				pages := 2 + r.Intn(6)
				commit(t, p, pages, string(rune('a'+r.Intn(26))), 2+r.Intn(pages-1), 2+r.Intn(pages-1))
				states = append(states, told(t, p))
			case 2:
				if m, e := Next(p, 0, uint64(r.Intn(len(states)))); e == api.OK {
					units = append(units, m)
				}
				if m, e := Snap(p, 0); e == api.OK && r.Intn(4) == 0 {
					units = append(units, m)
				}
			case 3:
				if r.Intn(3) == 0 {
					p.Checkpoint()
				}
				if r.Intn(3) == 0 {
					q.Checkpoint()
				}
			case 4:
				k, _ := Have(q)
				m, e := Next(p, 0, k)
				if (e == api.OK) != (k < uint64(len(states)-1)) {
					t.Fatal("Next:", k, e)
				}
				if e == api.OK {
					f := Follow(q, m)
					if n, _ := Have(q); f != api.ErrSpace && (f != api.OK || n <= k) { // it may be armed
						t.Fatal("no forward:", k, n, f)
					}
				}
			default:
				if len(units) > 0 {
					if r.Intn(4) == 0 {
						d.Arm(r.Intn(4), api.ErrSpace)
					}
					Follow(q, units[r.Intn(len(units))])
				}
			}
			k, e := Have(q)
			if e != api.OK || k < have || !slices.Equal(told(t, q), states[k]) {
				t.Fatal("not like it:", k, have, e)
			}
			have = k
		}
	}
}

func TestRoom(t *testing.T) { // what one commit makes others always has room
	p, _ := fresh(t)
	q, _ := fresh(t)
	var all []int
	for n := 2; n <= api.MaxPages; n++ {
		all = append(all, n)
	}
	for i := range 3 {
		commit(t, p, api.MaxPages, string(rune('a'+i)), all...)
		m, e := Next(p, 0, uint64(i))
		want(t, "Next", e, api.OK)
		want(t, "Follow", Follow(q, m), api.OK)
		if !slices.Equal(told(t, q), told(t, p)) || m.Full {
			t.Error("not like it")
		}
	}
}
