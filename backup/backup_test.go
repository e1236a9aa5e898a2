package backup

import (
	"math/rand"
	"slices"
	"strings"
	"testing"

	"counterfoil/api"
	"counterfoil/files"
	"counterfoil/pager"
	"counterfoil/space"
)

func want(t testing.TB, what string, got, e api.Errno) {
	t.Helper()
	if got != e {
		t.Errorf("%s: %d, not %d", what, got, e)
	}
}

func opened(t testing.TB, d *files.Disk) *pager.Pager {
	t.Helper()
	p, e := pager.Open(d)
	if e != api.OK {
		t.Fatal("Open:", e)
	}
	return p
}

func page(c string) string { return strings.Repeat(c, api.PageSize) }

// commit: a transaction in which there are so many pages, all from 2 on with that letter.
func commit(t testing.TB, p *pager.Pager, pages int, c string) {
	t.Helper()
	if e := space.Begin(p); e != api.OK {
		t.Fatal("Begin:", e)
	}
	p.Resize(pages)
	for n := 2; n <= pages; n++ {
		p.Write(n, page(c))
	}
	if e := space.Commit(p); e != api.OK {
		t.Fatal("Commit:", e)
	}
}

// some: a source of three pages and two commits.
func some(t testing.TB) *pager.Pager {
	p := opened(t, files.New())
	commit(t, p, 5, "a")
	commit(t, p, 3, "b")
	return p
}

// told: all pages.
func told(t testing.TB, p *pager.Pager) (l []string) {
	t.Helper()
	for n := 1; n <= p.Pages(); n++ {
		s, e := p.Read(n)
		if e != api.OK {
			t.Fatal(e)
		}
		l = append(l, s)
	}
	return l
}

func started(t testing.TB, p *pager.Pager, d *files.Disk) *Backup {
	t.Helper()
	b, e := Start(p, d)
	if e != api.OK {
		t.Fatal("Start:", e)
	}
	return b
}

func TestExamples(t *testing.T) {
	p, d := some(t), files.New()
	b := started(t, p, d)
	if b.Left() != 3 || b.Commits() != 2 || b.Done() || b.Restarts() != 0 {
		t.Error(b.Left(), b.Commits())
	}
	want(t, "Step", b.Step(2), api.OK)
	if b.Left() != 1 {
		t.Error(b.Left())
	}
	_, e := space.Read(opened(t, d.Copy()))
	want(t, "Read", e, api.ErrBytes)
	commit(t, p, 2, "c")
	want(t, "Step", b.Step(1), api.OK)
	if b.Restarts() != 1 || b.Left() != 1 || b.Commits() != 3 {
		t.Error(b.Restarts(), b.Left())
	}
	commit(t, p, 3, "d")
	want(t, "Step", b.Step(1), api.OK)
	if b.Restarts() != 2 || b.Left() != 2 {
		t.Error(b.Restarts(), b.Left())
	}
	want(t, "Step", b.Step(9), api.OK)
	if !b.Done() || b.Left() != 0 || b.Commits() != 4 || d.Loose() != 0 {
		t.Error(b.Left(), d.Loose())
	}
	if !slices.Equal(told(t, opened(t, d)), told(t, p)) {
		t.Error("not the source")
	}
	ops := d.Ops()
	commit(t, p, 3, "e")
	want(t, "Step", b.Step(1), api.OK)
	if b.Commits() != 4 || d.Ops() != ops {
		t.Error("what is done is done")
	}
	c, e := Start(p, d)
	want(t, "Start", e, api.ErrState)
	if c != nil {
		t.Error("beside an error")
	}
}

func TestStartRefused(t *testing.T) { // P29.1
	p := some(t)
	off := files.New()
	off.Power(0)
	off.Sync(0)
	full := files.New()
	commit(t, opened(t, full), 2, "x")
	busy := some(t)
	busy.Begin()
	for i, c := range []struct {
		p *pager.Pager
		d *files.Disk
		e api.Errno
	}{
		{nil, full, api.ErrNil}, {p, nil, api.ErrNil}, {busy, off, api.ErrState}, {opened(t, files.New()), off, api.ErrNone}, {p, off, api.ErrOff}, {p, full, api.ErrState},
	} {
		ops := c.d.Ops()
		if b, e := Start(c.p, c.d); b != nil || e != c.e || c.d.Ops() != ops {
			t.Error(i, e)
		}
	}
}

func TestStartSteps(t *testing.T) { // P29.1: just its steps
	lid := unfinished + strings.Repeat("\x00", 502)
	junk := func(main, log int) *files.Disk {
		d := files.New()
		if main > 0 {
			d.Write(0, 0, strings.Repeat("x", 64*main))
		}
		if log > 0 {
			d.Write(1, 0, strings.Repeat("y", 64*log))
		}
		return d
	}
	for i, c := range []struct{ main, log, ops int }{{0, 0, 2}, {3, 0, 2}, {8, 0, 2}, {9, 0, 3}, {40, 0, 3}, {0, 1, 4}, {17, 5, 5}} {
		for k := range c.ops + 1 {
			d := junk(c.main, c.log)
			ops := d.Ops()
			d.Arm(k, api.ErrSpace)
			b, e := Start(some(t), d)
			if k < c.ops {
				if b != nil || e != api.ErrSpace || d.Ops() != ops+k+1 {
					t.Error(i, k, e)
				}
				continue
			}
			s, _ := d.Read(0, 0, d.Size(0))
			if e != api.OK || d.Ops() != ops+c.ops || s != lid || d.Size(1) != 0 || d.Loose() != 0 {
				t.Error(i, e, d.Ops()-ops)
			}
		}
	}
	d := junk(0, 0)
	started(t, some(t), d)
	started(t, some(t), d) // what is unfinished is no database
}

func TestStepSteps(t *testing.T) { // P29.2: just its steps, and their errors
	p, d := some(t), files.New()
	b := started(t, p, d)
	ops := d.Ops()
	want(t, "Step", b.Step(0), api.OK)
	want(t, "Step", b.Step(-5), api.OK)
	if d.Ops() != ops {
		t.Error("nothing")
	}
	d.Arm(1, api.ErrIO)
	want(t, "Step", b.Step(3), api.ErrIO)
	if b.Left() != 2 || d.Ops() != ops+2 {
		t.Error("the next page is still the same:", b.Left())
	}
	want(t, "Step", b.Step(1), api.OK)
	for k := range 3 { // sync, page 1, sync
		ops = d.Ops()
		d.Arm(k, api.ErrIO)
		want(t, "Step", b.Step(1), api.ErrIO)
		if b.Done() || b.Left() != 1 || d.Ops() != ops+k+1 {
			t.Error(k, b.Left())
		}
	}
	commit(t, p, 2, "c") // page 1 was written: the lid
	for k := range 2 {
		ops = d.Ops()
		d.Arm(k, api.ErrIO)
		want(t, "Step", b.Step(9), api.ErrIO)
		if b.Restarts() != 0 || b.Commits() != 2 || d.Ops() != ops+k+1 {
			t.Error("not begun anew:", b.Restarts())
		}
	}
	ops = d.Ops()
	want(t, "Step", b.Step(0), api.OK)
	if b.Restarts() != 1 || b.Left() != 2 || d.Ops() != ops+2 {
		t.Error(b.Restarts(), b.Left(), d.Ops()-ops)
	}
	want(t, "Step", b.Step(1), api.OK)
	commit(t, p, 2, "d") // page 1 was not written since
	ops = d.Ops()
	want(t, "Step", b.Step(1), api.OK)
	if b.Restarts() != 2 || d.Ops() != ops+1 {
		t.Error(b.Restarts(), d.Ops()-ops)
	}
	ops = d.Ops()
	want(t, "Step", b.Step(1), api.OK) // a cut, too: there were three pages
	if !b.Done() || d.Ops() != ops+4 || d.Size(0) != 16 {
		t.Error(d.Ops()-ops, d.Size(0))
	}
	if !slices.Equal(told(t, opened(t, d)), told(t, p)) {
		t.Error("not the source")
	}
}

func TestSource(t *testing.T) { // P29.2: the source's errors
	d := files.New()
	p := opened(t, d)
	commit(t, p, 1, "")
	b := started(t, p, files.New())
	if b.Left() != 1 {
		t.Error("one page:", b.Left())
	}
	p.Begin()
	want(t, "Step", b.Step(1), api.ErrState)
	p.Rollback()
	commit(t, p, 4, "a")
	p.Checkpoint()
	d.Power(0)
	d.Sync(0)
	want(t, "Step", b.Step(1), api.ErrOff)
	if b.Done() || b.Restarts() != 0 {
		t.Error("nothing")
	}
}

func TestNil(t *testing.T) { // P29.2, P29.3
	var b *Backup
	if b.Step(1) != api.ErrNil || b.Done() || b.Commits() != 0 || b.Left() != 0 || b.Restarts() != 0 {
		t.Error("nil")
	}
}

func TestWholeOrNone(t *testing.T) { // P29.4, P29.5
	dones := 0
	for seed := range int64(150) {
		r := rand.New(rand.NewSource(seed))
		p, d := opened(t, files.New()), files.New()
		commit(t, p, 1+r.Intn(6), "a")
		states := [][]string{nil, told(t, p)}
		if r.Intn(2) == 0 {
			d.Write(0, 0, strings.Repeat("x", 64*r.Intn(60)+64))
			d.Sync(0)
		}
		var b *Backup
		began := uint64(0) // what the source had when the last Step began
		for range 60 {
			if r.Intn(8) == 0 {
				d.Arm(r.Intn(4), api.ErrIO)
			}
			switch k := r.Intn(8); {
			case b == nil:
				b, _ = Start(p, d)
			case k == 0 && len(states) < 8:
				commit(t, p, 1+r.Intn(6), string(rune('a'+len(states))))
				states = append(states, told(t, p))
			case k == 1:
				p.Checkpoint()
			case !b.Done():
				began = uint64(len(states) - 1)
				b.Step(1 + r.Intn(3))
			}
			c := d.Copy()
			keep := make([]bool, c.Loose())
			for i := range keep {
				keep[i] = r.Intn(2) == 0
			}
			c.Crash(keep)
			if isDatabase(c) {
				got := told(t, opened(t, c))
				if !slices.ContainsFunc(states[1:], func(s []string) bool { return slices.Equal(s, got) }) {
					t.Fatal("neither whole nor none, seed", seed)
				}
			}
			if b.Done() {
				dones++
				if b.Commits() != began || !slices.Equal(told(t, opened(t, c)), states[began]) {
					t.Fatal("done, but not as it was, seed", seed)
				}
				break
			}
		}
		if b == nil || b.Done() {
			continue
		}
		for range 9 { // what is armed passes
			d.Sync(7)
		}
		left := b.Left()
		b.Step(0)
		if n := b.Left(); n > left { // it began anew
			left = n
		}
		want(t, "Step", b.Step(left), api.OK)
		if want(t, "Step", b.Step(1), api.OK); !b.Done() {
			t.Fatal("it ends")
		}
	}
	if dones < 50 {
		t.Error("too few:", dones)
	}
}
