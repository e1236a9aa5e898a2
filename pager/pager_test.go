package pager

import (
	"math/rand"
	"slices"
	"strings"
	"testing"

	"counterfoil/api"
	"counterfoil/files"
)

// page: a page of one letter.
func page(c string) string { return strings.Repeat(c, api.PageSize) }

func opened(t *testing.T, d *files.Disk) *Pager {
	t.Helper()
	p, e := Open(d)
	if e != api.OK {
		t.Fatal("Open:", e)
	}
	return p
}

// fresh: a pager of a new disk, and the disk.
func fresh(t *testing.T) (*Pager, *files.Disk) {
	d := files.New()
	return opened(t, d), d
}

func want(t *testing.T, what string, got, e api.Errno) {
	t.Helper()
	if got != e {
		t.Errorf("%s: %d, not %d", what, got, e)
	}
}

// reader is a pager or a view.
type reader interface {
	Pages() int
	Read(n int) (string, api.Errno)
}

func told(t *testing.T, p reader) []string {
	t.Helper()
	var r []string
	for n := 1; n <= p.Pages(); n++ {
		s, e := p.Read(n)
		if e != api.OK {
			t.Fatal(n, e)
		}
		r = append(r, s)
	}
	return r
}

func TestNil(t *testing.T) { // P6.1 to P6.6
	var p *Pager
	var v *View
	if p.Pages() != 0 || p.Log() != nil || v.Pages() != 0 {
		t.Error("nil")
	}
	_, e := p.Read(0)
	want(t, "Read", e, api.ErrNil)
	want(t, "Begin", p.Begin(), api.ErrNil)
	want(t, "Write", p.Write(0, ""), api.ErrNil)
	want(t, "Resize", p.Resize(0), api.ErrNil)
	_, e = p.Save()
	want(t, "Save", e, api.ErrNil)
	want(t, "Back", p.Back(0), api.ErrNil)
	want(t, "Release", p.Release(0), api.ErrNil)
	want(t, "Rollback", p.Rollback(), api.ErrNil)
	want(t, "Commit", p.Commit(), api.ErrNil)
	want(t, "Checkpoint", p.Checkpoint(), api.ErrNil)
	w, e := p.View()
	want(t, "View", e, api.ErrNil)
	_, f := v.Read(0)
	want(t, "view's Read", f, api.ErrNil)
	want(t, "Close", v.Close(), api.ErrNil)
	if w != nil {
		t.Error("a view of nil")
	}
}

func TestOpen(t *testing.T) { // P6.1
	if p, e := Open(nil); p != nil || e != api.ErrNil {
		t.Error(e)
	}
	d := files.New()
	d.Write(0, 0, strings.Repeat("x", 64))
	if p, e := Open(d); p != nil || e != api.ErrBytes {
		t.Error(e)
	}
	p, _ := fresh(t)
	if p.Log() == nil || p.Log().Mark() != 0 {
		t.Error("log")
	}
	want(t, "no transaction", p.Rollback(), api.ErrState)
}

func TestExamples(t *testing.T) {
	p, _ := fresh(t)
	if _, e := p.Read(1); p.Pages() != 0 || e != api.ErrRange {
		t.Error(e)
	}
	want(t, "Write", p.Write(1, page("a")), api.ErrState)
	want(t, "Begin", p.Begin(), api.OK)
	want(t, "Begin", p.Begin(), api.ErrState)
	want(t, "Resize", p.Resize(2), api.OK)
	want(t, "Write", p.Write(2, page("a")), api.OK)
	if k, e := p.Save(); k != 1 || e != api.OK {
		t.Error(k, e)
	}
	want(t, "Write", p.Write(2, page("b")), api.OK)
	want(t, "Back", p.Back(1), api.OK)
	if s, e := p.Read(2); s != page("a") || e != api.OK {
		t.Error(e)
	}
	want(t, "Back", p.Back(2), api.ErrRange)
	want(t, "Release", p.Release(1), api.OK)
	want(t, "Back", p.Back(1), api.ErrRange)
	want(t, "Commit", p.Commit(), api.OK)
	if p.Pages() != 2 {
		t.Error(p.Pages())
	}
	want(t, "Rollback", p.Rollback(), api.ErrState)
	v, e := p.View()
	want(t, "View", e, api.OK)
	p.Begin()
	p.Resize(1)
	want(t, "Commit", p.Commit(), api.OK)
	if v.Pages() != 2 {
		t.Error(v.Pages())
	}
	want(t, "Checkpoint", p.Checkpoint(), api.ErrState)
	want(t, "Close", v.Close(), api.OK)
	want(t, "Checkpoint", p.Checkpoint(), api.OK)
}

func TestTransaction(t *testing.T) { // P6.2, P6.3
	p, _ := fresh(t)
	want(t, "Resize", p.Resize(0), api.ErrState)
	p.Begin()
	for _, n := range []int{0, -1, 257} {
		want(t, "Resize", p.Resize(n), api.ErrRange)
	}
	want(t, "Write", p.Write(1, ""), api.ErrRange)
	want(t, "Resize", p.Resize(256), api.OK)
	want(t, "Resize", p.Resize(3), api.OK)
	want(t, "Write", p.Write(0, page("a")), api.ErrRange)
	want(t, "Write", p.Write(4, "a"), api.ErrRange)
	want(t, "Write", p.Write(3, page("a")[1:]), api.ErrArg)
	want(t, "Write", p.Write(3, page("a")), api.OK)
	if got := told(t, p); !slices.Equal(got, []string{page("\x00"), page("\x00"), page("a")}) {
		t.Error("new pages are bytes 0")
	}
	if _, e := p.Read(4); e != api.ErrRange {
		t.Error(e)
	}
	p.Resize(1)
	p.Resize(3)
	if s, _ := p.Read(3); s != page("\x00") {
		t.Error("what was gone comes back as bytes 0")
	}
	p.Rollback()
	if p.Pages() != 0 {
		t.Error(p.Pages())
	}
}

func TestSaves(t *testing.T) { // P6.4
	p, _ := fresh(t)
	_, e := p.Save()
	want(t, "Save", e, api.ErrState)
	want(t, "Back", p.Back(1), api.ErrState)
	want(t, "Release", p.Release(1), api.ErrState)
	p.Begin()
	p.Resize(1)
	for i := range 64 {
		p.Write(1, page(string(rune('0'+i))))
		if k, e := p.Save(); k != i+1 || e != api.OK {
			t.Fatal(k, e)
		}
	}
	if k, e := p.Save(); k != 0 || e != api.ErrFull {
		t.Error(k, e)
	}
	for _, k := range []int{0, -1, 65} {
		want(t, "Back", p.Back(k), api.ErrRange)
		want(t, "Release", p.Release(k), api.ErrRange)
	}
	p.Resize(9)
	want(t, "Back", p.Back(10), api.OK)
	if s, _ := p.Read(1); s != page("9") || p.Pages() != 1 {
		t.Error("as it was")
	}
	want(t, "those above are gone", p.Back(11), api.ErrRange)
	p.Write(1, page("z"))
	want(t, "this one stays", p.Back(10), api.OK)
	if s, _ := p.Read(1); s != page("9") {
		t.Error("as it was")
	}
	want(t, "Release", p.Release(5), api.OK)
	want(t, "Back", p.Back(5), api.ErrRange)
	if s, _ := p.Read(1); s != page("9") {
		t.Error("a Release changes nothing else")
	}
	if k, e := p.Save(); k != 5 || e != api.OK {
		t.Error(k, e)
	}
	p.Commit()
	p.Begin()
	want(t, "savepoints end with their transaction", p.Back(1), api.ErrRange)
}

func TestCommitImages(t *testing.T) { // P6.5
	p, d := fresh(t)
	want(t, "Commit", p.Commit(), api.ErrState)
	p.Begin()
	want(t, "nothing was written", p.Commit(), api.OK)
	if d.Ops() != 0 {
		t.Error(d.Ops())
	}
	p.Begin()
	p.Resize(4)
	p.Write(3, page("c"))
	p.Write(1, page("a"))
	want(t, "Commit", p.Commit(), api.OK)
	f, _ := p.Log().Frames(0, p.Log().Mark())
	if len(f) != 4 || f[0].Page != 1 || f[1].Page != 2 || f[2].Page != 3 || f[3].Page != 4 || f[3].Commit != 4 || f[0].Commit != 0 {
		t.Error("rising:", len(f))
	}
	p.Begin()
	p.Write(2, page("b"))
	p.Resize(1)
	want(t, "Commit", p.Commit(), api.OK)
	f, _ = p.Log().Frames(4, p.Log().Mark())
	if len(f) != 1 || f[0] != (api.Frame{Page: 1, Commit: 1, Data: page("a")}) {
		t.Error("page 1, as it is:", f)
	}
	p.Begin()
	p.Write(1, page("a"))
	want(t, "Commit", p.Commit(), api.OK)
	if p.Log().Mark() != 6 {
		t.Error("written is written, whatever it was:", p.Log().Mark())
	}
}

func TestCommitPageOne(t *testing.T) { // P6.5: page 1 must be read
	d := files.New()
	d.Write(0, 0, page("a")+page("b"))
	d.Sync(0)
	p := opened(t, d)
	p.Begin()
	p.Resize(1)
	d.Power(0)
	d.Sync(0)
	want(t, "Commit", p.Commit(), api.ErrOff)
	want(t, "Rollback", p.Rollback(), api.ErrState)
	if p.Pages() != 2 {
		t.Error(p.Pages())
	}
}

func TestCommitFull(t *testing.T) { // P6.5: a log that is full is laid into the main file
	p, d := fresh(t)
	commit := func(pages int, c string) api.Errno {
		p.Begin()
		p.Resize(pages)
		for n := 1; n <= pages; n++ {
			p.Write(n, page(c))
		}
		return p.Commit()
	}
	want(t, "all", commit(200, "a"), api.OK)
	v, _ := p.View()
	want(t, "a view is open", commit(200, "b"), api.ErrFull)
	want(t, "there is room", commit(56, "c"), api.OK)
	want(t, "full", commit(1, "d"), api.ErrFull)
	if got := told(t, v); len(got) != 200 || got[0] != page("a") || p.Pages() != 56 {
		t.Error("view")
	}
	v.Close()
	d.Arm(2, api.ErrSpace)
	want(t, "Checkpoint's error", commit(1, "e"), api.ErrSpace)
	other, _ := fresh(t)
	p, other = other, p
	want(t, "half", commit(128, "a"), api.OK)
	want(t, "just as many as may be", commit(128, "b"), api.OK)
	if p.Log().Mark() != 256 || p.Log().Number() != 0 {
		t.Error(p.Log().Mark())
	}
	p = other
	if p.Pages() != 56 || p.Log().Mark() != 256 {
		t.Error(p.Pages(), p.Log().Mark())
	}
	want(t, "laid", commit(1, "f"), api.OK)
	if p.Log().Mark() != 1 || p.Log().Number() != 1 || p.Pages() != 1 {
		t.Error(p.Log().Mark())
	}
	d.Arm(0, api.ErrIO)
	want(t, "Append's error", commit(2, "g"), api.ErrIO)
	if got := told(t, p); !slices.Equal(got, []string{page("f")}) {
		t.Error("what was committed stays")
	}
	want(t, "no transaction", p.Rollback(), api.ErrState)
}

func TestCheckpointView(t *testing.T) { // P6.6
	p, d := fresh(t)
	p.Begin()
	want(t, "in a transaction", p.Checkpoint(), api.ErrState)
	v, e := p.View()
	want(t, "View in a transaction", e, api.OK)
	p.Resize(2)
	if v.Pages() != 0 {
		t.Error(v.Pages())
	}
	p.Commit()
	if _, e := v.Read(1); e != api.ErrRange {
		t.Error(e)
	}
	w, _ := p.View()
	if _, e := w.Read(3); e != api.ErrRange {
		t.Error(e)
	}
	if _, e := w.Read(0); e != api.ErrRange {
		t.Error(e)
	}
	want(t, "two views", p.Checkpoint(), api.ErrState)
	want(t, "Close", v.Close(), api.OK)
	want(t, "Close", v.Close(), api.ErrState)
	want(t, "one view", p.Checkpoint(), api.ErrState)
	want(t, "Close", w.Close(), api.OK)
	if _, e := w.Read(1); e != api.ErrState || w.Pages() != 0 {
		t.Error(e)
	}
	want(t, "Checkpoint", p.Checkpoint(), api.OK)
	if d.Size(0) != 16 {
		t.Error(d.Size(0))
	}
}

// seen is a view, and what it must tell.
type seen struct {
	v    *View
	want []string
}

func TestModel(t *testing.T) { // P6.7, P6.8
	for seed := range int64(150) {
		r := rand.New(rand.NewSource(seed))
		p, d := fresh(t)
		var committed, now []string
		var failed [][]string
		var saves [][]string
		var views []seen
		in := false
		for range 150 {
			switch k := r.Intn(13); {
			case !in && k < 5:
				want(t, "Begin", p.Begin(), api.OK)
				in, now, saves = true, slices.Clone(committed), nil
			case in && k < 3:
				n := 1 + r.Intn(5)
				want(t, "Resize", p.Resize(n), api.OK)
				for len(now) < n {
					now = append(now, page("\x00"))
				}
				now = now[:n]
			case in && k < 6 && len(now) > 0:
				n, s := r.Intn(len(now)), page(string(rune('a'+r.Intn(26))))
				want(t, "Write", p.Write(n+1, s), api.OK)
				now[n] = s
			case in && k == 6:
				if _, e := p.Save(); e == api.OK {
					saves = append(saves, slices.Clone(now))
				}
			case in && k == 7 && len(saves) > 0:
				n := 1 + r.Intn(len(saves))
				want(t, "Back", p.Back(n), api.OK)
				saves = saves[:n]
				now = slices.Clone(saves[n-1])
			case in && k == 8 && len(saves) > 0:
				n := 1 + r.Intn(len(saves))
				want(t, "Release", p.Release(n), api.OK)
				saves = saves[:n-1]
			case in && k == 9:
				want(t, "Rollback", p.Rollback(), api.OK)
				in = false
			case in && k < 12:
				if r.Intn(4) == 0 {
					d.Arm(r.Intn(5), api.ErrIO)
				}
				ops := d.Ops()
				if e := p.Commit(); e == api.OK && d.Ops() == ops {
					in = false // nothing was written: what failed ahead may still be kept
					break
				} else if e == api.OK {
					committed, failed = now, nil
				} else {
					failed = append(failed, now)
				}
				in = false
			case k == 12 && len(views) < 3:
				v, _ := p.View()
				views = append(views, seen{v, committed})
			case !in && k == 11 && len(views) > 0:
				want(t, "Close", views[0].v.Close(), api.OK)
				views = views[1:]
			case !in && k == 10:
				p.Checkpoint()
			}
			if !in {
				now = committed
			}
			if !slices.Equal(told(t, p), now) {
				t.Fatal("otherwise, seed", seed)
			}
			for _, s := range views {
				if !slices.Equal(told(t, s.v), s.want) {
					t.Fatal("a view, seed", seed)
				}
			}
		}
		for range 5 {
			c := d.Copy()
			keep := make([]bool, c.Loose())
			for i := range keep {
				keep[i] = r.Intn(2) == 0
			}
			c.Crash(keep)
			got := told(t, opened(t, c))
			ok := slices.Equal(got, committed)
			for _, f := range failed {
				ok = ok || slices.Equal(got, f)
			}
			if !ok {
				t.Fatal("kept, seed", seed)
			}
		}
	}
}

func TestCommitHeadNotWritten(t *testing.T) { // P6.5: where the head's Write fails the next Commit does no more than Append's four steps
	commit := func(p *Pager) api.Errno {
		want(t, "begin", p.Begin(), api.OK)
		want(t, "resize", p.Resize(1), api.OK)
		want(t, "write", p.Write(1, page("a")), api.OK)
		return p.Commit()
	}
	for _, fails := range []api.Errno{api.ErrIO, api.ErrSpace} {
		p, d := fresh(t)
		d.Arm(2, fails)
		want(t, "the head's write", commit(p), fails)
		if d.Ops() != 3 || p.Pages() != 0 {
			t.Error(d.Ops(), p.Pages())
		}
		want(t, "commit", commit(p), api.OK)
		if d.Ops() != 7 || p.Pages() != 1 {
			t.Error(d.Ops(), p.Pages())
		}
		d.Arm(2, fails)
		want(t, "the head's write", p.Checkpoint(), fails)
		want(t, "commit", commit(p), api.OK)
		if d.Ops() != 7+3+4 {
			t.Error(d.Ops())
		}
	}
}
