package archive

import (
	"math/rand"
	"slices"
	"strings"
	"testing"

	"counterfoil/api"
	"counterfoil/files"
	"counterfoil/pager"
	"counterfoil/ship"
	"counterfoil/space"
)

func want(t testing.TB, what string, got, e api.Errno) {
	t.Helper()
	if got != e {
		t.Errorf("%s: %d, not %d", what, got, e)
	}
}

func opened(t testing.TB, d *files.Disk) *pager.Pager {
	t.Helper()
	p, e := pager.Open(d)
	if e != api.OK {
		t.Fatal("Open:", e)
	}
	return p
}

// commit: a transaction in which there are so many pages, of which these have that letter.
func commit(t testing.TB, p *pager.Pager, pages int, c string, written ...int) {
	t.Helper()
	if e := space.Begin(p); e != api.OK {
		t.Fatal("Begin:", e)
	}
	p.Resize(pages)
	for _, n := range written {
		p.Write(n, strings.Repeat(c, api.PageSize))
	}
	if e := space.Commit(p); e != api.OK {
		t.Fatal("Commit:", e)
	}
}

// told: all pages.
func told(t testing.TB, p *pager.Pager) (l []string) {
	t.Helper()
	for n := 1; n <= p.Pages(); n++ {
		s, e := p.Read(n)
		if e != api.OK {
			t.Fatal(e)
		}
		l = append(l, s)
	}
	return l
}

// three: a database with the commits 1, 2, 3, its segments, which were gathered one by one, and its pages behind each commit.
func three(t testing.TB) (p *pager.Pager, segments []string, states [][]string) {
	t.Helper()
	p = opened(t, files.New())
	states = [][]string{nil}
	for i, c := range []string{"a", "b", "c"} {
		commit(t, p, 2+i%2, c, 2)
		l, e := Gather(p, uint64(i))
		if len(l) != 1 || e != api.OK {
			t.Fatal("Gather:", len(l), e)
		}
		segments = append(segments, l...)
		states = append(states, told(t, p))
	}
	return p, segments, states
}

func TestExamples(t *testing.T) { // P30.1 to P30.4
	_, s, states := three(t)
	a, b, c := s[0], s[1], s[2]
	for i, k := range []struct {
		segments []string
		known    []uint64
	}{
		{[]string{c, a, b}, []uint64{1, 2, 3}}, {[]string{a, c}, []uint64{1}}, {[]string{b, c}, nil}, {nil, nil}, {[]string{b, a, a, b}, []uint64{1, 2}},
	} {
		if l, e := Known(k.segments); !slices.Equal(l, k.known) || e != api.OK {
			t.Error(i, l, e)
		}
		for n := uint64(1); n < 4; n++ {
			pages, e := Pages(k.segments, n)
			if slices.Contains(k.known, n) != (e == api.OK) || e == api.OK && !slices.Equal(pages, states[n]) || e != api.OK && (pages != nil || e != api.ErrNone) {
				t.Error(i, n, e)
			}
		}
	}
	_, e := Pages([]string{a, c}, 2)
	want(t, "Pages", e, api.ErrNone)
	_, e = Pages([]string{a, b}, 0)
	want(t, "Pages", e, api.ErrNone)
	_, e = Pages(s, ^uint64(0))
	want(t, "Pages", e, api.ErrNone)
	d := files.New()
	want(t, "Restore", Restore(d, s, 2), api.OK)
	if !slices.Equal(told(t, opened(t, d)), states[2]) || d.Loose() != 0 || d.Ops() != 4 {
		t.Error("not as it was")
	}
	want(t, "Restore", Restore(d, s, 2), api.ErrState)
}

func TestGather(t *testing.T) { // P30.1
	_, e := Gather(nil, 0)
	want(t, "nil", e, api.ErrNil)
	p, s, _ := three(t)
	for have := range uint64(6) {
		l, e := Gather(p, have)
		if !slices.Equal(l, s[min(have, 3):]) || e != api.OK {
			t.Error(have, len(l), e)
		}
	}
	p.Checkpoint()
	l, e := Gather(p, 1)
	if m, _ := ship.Take(l[0]); len(l) != 1 || !m.Full || m.K != 3 || m.Epoch != 0 || e != api.OK {
		t.Error(len(l), e)
	}
	commit(t, p, 3, "d", 3)
	if l, e = Gather(p, 1); len(l) != 1 || e != api.OK { // the full unit tells all there is
		t.Error(len(l), e)
	}
	if l, e = Gather(p, 3); len(l) != 1 || e != api.OK {
		t.Error(len(l), e)
	}
	p.Begin()
	l, e = Gather(p, 0)
	if want(t, "in a transaction", e, api.ErrState); l != nil {
		t.Error(l)
	}
	p.Rollback()
	q := opened(t, files.New())
	if l, e := Gather(q, 0); len(l) != 0 || e != api.OK {
		t.Error(l, e)
	}
	d := files.New()
	q = opened(t, d)
	commit(t, q, 3, "a", 2)
	q.Checkpoint()
	commit(t, q, 3, "b", 3)
	s, e = Gather(q, 0)
	if want(t, "Gather", e, api.OK); len(s) != 1 {
		t.Error(len(s))
	}
}

func TestKnownErrors(t *testing.T) { // P30.2, P30.3
	_, s, _ := three(t)
	ack, _ := ship.Put(api.Ship{Kind: api.ShipAck, K: 1})
	bad := s[1][:len(s[1])-1] + "?"
	for i, c := range []struct {
		segments []string
		e        api.Errno
	}{
		{[]string{ack}, api.ErrArg}, {[]string{s[0], bad, "short"}, api.ErrSum}, {[]string{s[0], "short", bad}, api.ErrBytes}, {[]string{s[0], ack, s[1]}, api.ErrArg}, {[]string{ack, bad}, api.ErrSum}, {[]string{bad, ack}, api.ErrSum}, {[]string{""}, api.ErrBytes},
	} {
		l, e := Known(c.segments)
		if want(t, "Known", e, c.e); l != nil {
			t.Error(i, l)
		}
		for _, k := range []uint64{0, 1} {
			p, e := Pages(c.segments, k)
			if want(t, "Pages", e, c.e); p != nil {
				t.Error(i)
			}
		}
		d := files.New()
		if want(t, "Restore", Restore(d, c.segments, 1), c.e); d.Ops() != 0 {
			t.Error("something was laid")
		}
	}
}

// unitOf: a segment of the commit k, of one page, whose header has that root.
func unitOf(t testing.TB, k uint64, full bool, root int) (segment, page string) {
	t.Helper()
	h, _ := space.Put(api.Header{Commits: k, Roots: [8]int{root}})
	s, e := ship.Put(api.Ship{Kind: api.ShipUnit, K: k, Full: full, Pages: 1, Images: []api.Image{{Page: 1, Data: h}}})
	if e != api.OK {
		t.Fatal(e)
	}
	return s, h
}

func TestWay(t *testing.T) { // the way to a commit
	part := func(k uint64, root int) string { s, _ := unitOf(t, k, false, root); return s }
	full := func(k uint64, root int) string { s, _ := unitOf(t, k, true, root); return s }
	page := func(k uint64, root int) string { _, h := unitOf(t, k, true, root); return h }
	for i, c := range []struct {
		segments []string
		known    []uint64
		k        uint64
		page     string
	}{
		{[]string{full(5, 1)}, []uint64{5}, 5, page(5, 1)}, {[]string{part(6, 1), full(5, 1), part(8, 1)}, []uint64{5, 6}, 6, page(6, 1)},
		{[]string{full(5, 1), part(5, 2), part(6, 3)}, []uint64{5, 6}, 5, page(5, 1)},                                                  // the full one
		{[]string{full(5, 1), full(5, 2)}, []uint64{5}, 5, page(5, 1)}, {[]string{part(1, 1), part(1, 2)}, []uint64{1}, 1, page(1, 1)}, // the first one
		{[]string{part(1, 1), part(3, 1), full(4, 1), part(5, 1)}, []uint64{1, 4, 5}, 5, page(5, 1)}, {[]string{full(2, 1), part(3, 1), full(9, 1)}, []uint64{2, 3, 9}, 3, page(3, 1)},
		{[]string{full(1<<63, 1), full(^uint64(0), 1), part(1<<63+1, 2)}, []uint64{1 << 63, 1<<63 + 1, ^uint64(0)}, 1<<63 + 1, page(1<<63+1, 2)},
	} {
		if l, e := Known(c.segments); !slices.Equal(l, c.known) || e != api.OK {
			t.Error(i, l, e)
		}
		if p, e := Pages(c.segments, c.k); len(p) != 1 || p[0] != c.page || e != api.OK {
			t.Error(i, e)
		}
	}
	h, _ := space.Put(api.Header{Commits: 7})
	odd, _ := ship.Put(api.Ship{Kind: api.ShipUnit, K: 2, Pages: 1, Images: []api.Image{{Page: 1, Data: h}}})
	if l, e := Known([]string{part(1, 1), odd}); !slices.Equal(l, []uint64{1, 2}) || e != api.OK {
		t.Error(l, e)
	}
	p, e := Pages([]string{part(1, 1), odd}, 2) // a unit that can't be followed
	if want(t, "Pages", e, api.ErrBytes); p != nil {
		t.Error(p)
	}
	d := files.New()
	if want(t, "Restore", Restore(d, []string{part(1, 1), odd}, 2), api.ErrBytes); d.Ops() != 0 {
		t.Error("something was laid")
	}
	want(t, "Restore", Restore(d, []string{part(1, 1)}, 1), api.OK)
	if d.Ops() != 3 || d.Size(0) != 8 {
		t.Error("one page:", d.Ops())
	}
}

func TestRestore(t *testing.T) { // P30.4
	want(t, "nil", Restore(nil, nil, 0), api.ErrNil)
	_, s, states := three(t)
	for f := range 2 {
		d := files.New()
		d.Write(f, 0, strings.Repeat("x", 64))
		want(t, "a sector", Restore(d, []string{"?"}, 1), api.ErrState)
	}
	d := files.New()
	d.Write(2, 0, strings.Repeat("x", 64))
	want(t, "of another file", Restore(d, s, 3), api.OK)
	off := files.New()
	off.Power(0)
	off.Sync(0)
	want(t, "off", Restore(off, s, 3), api.ErrOff)
	want(t, "no such way", Restore(off, s, 4), api.ErrNone)
	for k := range 4 {
		d := files.New()
		d.Arm(k, api.ErrIO)
		if want(t, "armed", Restore(d, s, 2), api.ErrIO); d.Ops() != k+1 {
			t.Error(k, d.Ops())
		}
	}
	for k := 1; k < 4; k++ {
		d := files.New()
		if want(t, "Restore", Restore(d, s, uint64(k)), api.OK); !slices.Equal(told(t, opened(t, d)), states[k]) {
			t.Error("not as it was:", k)
		}
	}
	r := rand.New(rand.NewSource(31))
	whole := 0
	for range 300 { // P30.6: whenever the power goes, whatever is kept
		d := files.New()
		d.Power(r.Intn(5))
		Restore(d, s, 2)
		keep := make([]bool, d.Loose())
		for i := range keep {
			keep[i] = r.Intn(5) > 0
		}
		d.Crash(keep)
		p, e := pager.Open(d)
		if e != api.OK || p.Pages() == 0 {
			continue
		}
		if _, e := space.Read(p); e == api.OK {
			whole++
			if !slices.Equal(told(t, p), states[2]) {
				t.Fatal("a half")
			}
		}
	}
	if whole == 0 {
		t.Error("never whole")
	}
}

func TestEachCommit(t *testing.T) { // P30.5, P30.6
	for seed := range int64(30) {
		r := rand.New(rand.NewSource(seed))
		p := opened(t, files.New())
		var segments []string
		states := [][]string{nil}
		for range 25 {
			pages := 2 + r.Intn(5)
			commit(t, p, pages, string(rune('a'+r.Intn(26))), 2+r.Intn(pages-1), 2+r.Intn(pages-1))
			states = append(states, told(t, p))
			l, e := Gather(p, uint64(len(states)-2))
			if len(l) != 1 || e != api.OK {
				t.Fatal(len(l), e)
			}
			segments = append(segments, l...)
			if r.Intn(3) == 0 {
				p.Checkpoint()
			}
		}
		r.Shuffle(len(segments), func(i, j int) { segments[i], segments[j] = segments[j], segments[i] })
		segments = append(segments, segments[r.Intn(len(segments))])
		if l, e := Known(segments); len(l) != len(states)-1 || l[0] != 1 || l[len(l)-1] != uint64(len(l)) || e != api.OK {
			t.Fatal(l, e)
		}
		for k := 1; k < len(states); k++ {
			if got, e := Pages(segments, uint64(k)); !slices.Equal(got, states[k]) || e != api.OK {
				t.Fatal(k, e)
			}
		}
		i := r.Intn(len(segments))
		at := r.Intn(len(segments[i]))
		bad := slices.Clone(segments)
		bad[i] = bad[i][:at] + string([]byte{bad[i][at] ^ byte(1+r.Intn(255))}) + bad[i][at+1:]
		d := files.New()
		if e := Restore(d, bad, 5); e == api.OK || d.Ops() != 0 {
			t.Fatal("damaged:", e)
		}
		m, _ := ship.Take(segments[i])
		wanting := slices.DeleteFunc(slices.Clone(segments), func(s string) bool { return s == segments[i] })
		if e := Restore(d, wanting, m.K); e != api.ErrNone || d.Ops() != 0 {
			t.Fatal("wanting:", e)
		}
	}
}
