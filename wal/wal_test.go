package wal

import (
	"math/rand"
	"strings"
	"testing"

	"counterfoil/api"
	"counterfoil/files"
	"counterfoil/frame"
)

// page: a page of one letter.
func page(c string) string { return strings.Repeat(c, api.PageSize) }

func image(n int, c string) api.Image { return api.Image{Page: n, Data: page(c)} }

func opened(t *testing.T, d *files.Disk) *Log {
	t.Helper()
	l, e := Open(d)
	if e != api.OK {
		t.Fatal("Open:", e)
	}
	return l
}

func want(t *testing.T, what string, got, e api.Errno) {
	t.Helper()
	if got != e {
		t.Errorf("%s: %d, not %d", what, got, e)
	}
}

// told: Pages, and the pages from 1 to that.
func told(t *testing.T, l *Log) []string {
	t.Helper()
	var r []string
	for n := 1; n <= l.Pages(); n++ {
		s, e := l.Page(n, l.Mark())
		if e != api.OK {
			t.Fatal(n, e)
		}
		r = append(r, s)
	}
	return r
}

func same(a, b []string) bool {
	return len(a) == len(b) && strings.Join(a, "") == strings.Join(b, "")
}

func TestOpen(t *testing.T) { // P5.1
	if l, e := Open(nil); l != nil || e != api.ErrNil {
		t.Error(e)
	}
	d := files.New()
	d.Power(0)
	d.Sync(0)
	if l, e := Open(d); l != nil || e != api.ErrOff {
		t.Error(e)
	}
	for _, n := range []int{0, 8, 64, 8 * api.MaxPages} {
		d = files.New()
		if n > 0 {
			d.Write(api.MainFile, 0, noughts(n*api.Sector))
		}
		d.Write(api.LogFile, 0, noughts(api.Sector))
		ops := d.Ops()
		if l := opened(t, d); l.Pages() != n/8 || l.Mark() != 0 || l.Number() != 0 || d.Ops() != ops {
			t.Error(n, l.Pages(), l.Mark(), l.Number())
		}
	}
	for _, n := range []int{1, 7, 9, 8*api.MaxPages + 8} {
		d = files.New()
		d.Write(api.MainFile, 0, noughts(n*api.Sector))
		if l, e := Open(d); l != nil || e != api.ErrBytes {
			t.Error(n, e)
		}
	}
}

// spoilt: a disk with a log of two frames, of which one byte of a sector is turned (none, if the sector is below 0).
func spoilt(t *testing.T, sector, at int) *files.Disk {
	t.Helper()
	d := files.New()
	want(t, "append", opened(t, d).Append(2, image(1, "a"), image(2, "b")), api.OK)
	if sector >= 0 {
		s, _ := d.Read(api.LogFile, sector, 1)
		b := []byte(s)
		b[at] ^= 1
		d.Write(api.LogFile, sector, string(b))
	}
	return d
}

func TestOpenBytes(t *testing.T) { // P5.1
	for _, c := range [][2]int{{0, 0}, {0, 9}, {0, 40}, {1, 3}, {2, 0}, {9, 63}, {10, 20}, {18, 5}} {
		if l, e := Open(spoilt(t, c[0], c[1])); l != nil || e != api.ErrBytes {
			t.Error(c, e)
		}
	}
	d := spoilt(t, -1, 0)
	d.Write(api.MainFile, 0, noughts(api.Sector)) // with a head the main file makes no difference
	opened(t, d)
	d.Cut(api.LogFile, 18)
	if _, e := Open(d); e != api.ErrBytes {
		t.Error("a frame that is not there as a whole:", e)
	}
	for _, h := range []api.LogHead{{Frames: 2, Pages: 3}, {Frames: 1, Pages: 2}, {Frames: 3, Pages: 2}, {Number: 1, Frames: 2, Pages: 2}} {
		d = spoilt(t, -1, 0)
		s, _ := frame.PutHead(h)
		d.Write(api.LogFile, 0, s)
		if _, e := Open(d); e != api.ErrBytes {
			t.Error(h, e)
		}
	}
	d = spoilt(t, -1, 0)
	s, _ := frame.PutHead(api.LogHead{Number: 5, Pages: 9})
	d.Write(api.LogFile, 0, s)
	if l := opened(t, d); l.Mark() != 0 || l.Pages() != 9 || l.Number() != 5 {
		t.Error("a head without frames")
	}
}

func TestLooks(t *testing.T) { // P5.2, P5.3
	var none *Log
	if none.Mark() != 0 || none.Pages() != 0 || none.Number() != 0 {
		t.Error("nil")
	}
	if s, e := none.Page(0, -1); s != "" || e != api.ErrNil {
		t.Error(e)
	}
	if s, e := none.Frames(1, 0); s != nil || e != api.ErrNil {
		t.Error(e)
	}
	d := files.New()
	l := opened(t, d)
	if s, e := l.Page(1, 0); s != noughts(512) || e != api.OK || l.Mark() != 0 || l.Pages() != 0 || l.Number() != 0 {
		t.Error(e)
	}
	want(t, "append", l.Append(2, image(1, "a"), image(2, "b")), api.OK)
	if l.Mark() != 2 || l.Pages() != 2 || d.Ops() != 4 || d.Size(1) != 19 || d.Loose() != 0 {
		t.Error(l.Mark(), l.Pages(), d.Ops(), d.Size(1))
	}
	want(t, "append", l.Append(1, image(1, "c")), api.OK)
	for _, c := range []struct {
		n, mark int
		s       string
	}{{1, 0, noughts(512)}, {1, 1, page("a")}, {2, 1, noughts(512)}, {1, 2, page("a")}, {1, 3, page("c")}, {2, 3, page("b")}, {256, 3, noughts(512)}} {
		if s, e := l.Page(c.n, c.mark); s != c.s || e != api.OK {
			t.Error(c.n, c.mark, e)
		}
	}
	for _, c := range [][2]int{{0, 0}, {257, 0}, {-1, 0}, {1, 4}, {1, -1}} {
		if s, e := l.Page(c[0], c[1]); s != "" || e != api.ErrRange {
			t.Error(c, e)
		}
	}
	for _, c := range [][2]int{{-1, 0}, {2, 1}, {0, 4}, {4, 4}} {
		if f, e := l.Frames(c[0], c[1]); f != nil || e != api.ErrRange {
			t.Error(c, e)
		}
	}
	f, e := l.Frames(1, 3)
	if len(f) != 2 || f[0] != (api.Frame{Page: 2, Commit: 2, Data: page("b")}) || f[1] != (api.Frame{Page: 1, Commit: 1, Data: page("c")}) || e != api.OK {
		t.Error(f, e)
	}
	for _, c := range [][3]int{{3, 3, 0}, {0, 0, 0}, {0, 3, 3}, {0, 1, 1}} {
		if f, e := l.Frames(c[0], c[1]); len(f) != c[2] || e != api.OK {
			t.Error(c, f, e)
		}
	}
}

func TestMainFile(t *testing.T) { // P5.3: pages of the main file
	d := files.New()
	d.Write(api.MainFile, 0, page("x")+page("y"))
	l := opened(t, d)
	if s, e := l.Page(2, 0); s != page("y") || e != api.OK {
		t.Error(e)
	}
	d.Write(api.MainFile, 16, noughts(7*api.Sector))
	if s, e := l.Page(3, 0); s != noughts(512) || e != api.OK {
		t.Error("not all sectors:", e)
	}
	d.Power(0)
	d.Sync(0)
	if s, e := l.Page(1, 0); s != "" || e != api.ErrOff {
		t.Error(e)
	}
}

func TestAppendRefused(t *testing.T) { // P5.4
	d := files.New()
	l := opened(t, d)
	want(t, "nil", (*Log)(nil).Append(0), api.ErrNil)
	want(t, "no pages", l.Append(0, image(1, "a")), api.ErrArg)
	want(t, "many pages", l.Append(257, image(1, "a")), api.ErrArg)
	want(t, "no image", l.Append(1), api.ErrArg)
	want(t, "page 0", l.Append(1, image(1, "a"), image(0, "a")), api.ErrArg)
	want(t, "page 257", l.Append(1, image(257, "a")), api.ErrArg)
	want(t, "short", l.Append(1, api.Image{Page: 1, Data: "a"}), api.ErrArg)
	many := make([]api.Image, api.MaxFrames+1)
	for i := range many {
		many[i] = image(1+i%256, "m")
	}
	want(t, "full", l.Append(256, many...), api.ErrFull)
	many[0].Page = 0
	want(t, "ErrArg ahead of ErrFull", l.Append(256, many...), api.ErrArg)
	if d.Ops() != 0 || l.Mark() != 0 {
		t.Error(d.Ops(), l.Mark())
	}
	want(t, "all", l.Append(256, many[1:]...), api.OK)
	want(t, "full", l.Append(1, image(1, "a")), api.ErrFull)
	if d.Ops() != 4 || l.Mark() != 256 {
		t.Error(d.Ops(), l.Mark())
	}
	if l = opened(t, d); l.Mark() != 256 || l.Pages() != 256 {
		t.Error(l.Mark())
	}
}

// bytes: what the disk's two files are.
func bytes(t *testing.T, d *files.Disk) string {
	t.Helper()
	a, e := d.Read(api.MainFile, 0, d.Size(api.MainFile))
	b, f := d.Read(api.LogFile, 0, d.Size(api.LogFile))
	if e != api.OK || f != api.OK {
		t.Fatal(e, f)
	}
	return a + "/" + b
}

func TestAppendBytes(t *testing.T) { // P5.4: what stands in the log
	d := files.New()
	l := opened(t, d)
	l.Append(2, image(1, "a"), image(2, "b"))
	l.Append(3, image(3, "c"))
	head, _ := frame.PutHead(api.LogHead{Frames: 3, Pages: 3})
	a, p, _ := frame.Put(frame.Start(0), 0, api.Frame{Page: 1, Data: page("a")})
	b, p, _ := frame.Put(p, 0, api.Frame{Page: 2, Commit: 2, Data: page("b")})
	c, _, _ := frame.Put(p, 0, api.Frame{Page: 3, Commit: 3, Data: page("c")})
	if bytes(t, d) != "/"+head+a+b+c {
		t.Error("bytes")
	}
}

func TestCheckpoint(t *testing.T) { // P5.5
	want(t, "nil", (*Log)(nil).Checkpoint(), api.ErrNil)
	d := files.New()
	l := opened(t, d)
	want(t, "no frames", l.Checkpoint(), api.OK)
	if d.Ops() != 0 {
		t.Error(d.Ops())
	}
	l.Append(3, image(3, "x"), image(1, "a"), image(2, "b"))
	l.Append(3, image(1, "c"))
	ops := d.Ops()
	want(t, "checkpoint", l.Checkpoint(), api.OK)
	if d.Ops() != ops+6 || l.Mark() != 0 || l.Pages() != 3 || l.Number() != 1 || d.Loose() != 0 {
		t.Error(d.Ops()-ops, l.Mark(), l.Pages(), l.Number())
	}
	head, _ := frame.PutHead(api.LogHead{Number: 1, Pages: 3})
	if s := bytes(t, d); !strings.HasPrefix(s, page("c")+page("b")+page("x")+"/"+head) {
		t.Error("bytes")
	}
	l.Append(2, image(2, "d"))
	ops = d.Ops()
	want(t, "checkpoint", l.Checkpoint(), api.OK) // one page, a cut, a sync, the head, a sync
	if d.Ops() != ops+5 || d.Size(0) != 16 || l.Number() != 2 || !same(told(t, l), []string{page("c"), page("d")}) {
		t.Error(d.Ops()-ops, d.Size(0), l.Number())
	}
	l = opened(t, d)
	if l.Number() != 2 || l.Mark() != 0 || !same(told(t, l), []string{page("c"), page("d")}) {
		t.Error("opened")
	}
	l.Append(4, image(1, "e")) // pages that nobody wrote
	want(t, "checkpoint", l.Checkpoint(), api.OK)
	if !same(told(t, l), []string{page("e"), page("d"), noughts(512), noughts(512)}) || d.Size(0) != 16 {
		t.Error(d.Size(0))
	}
}

func TestExamples(t *testing.T) {
	d := files.New()
	l := opened(t, d)
	l.Append(2, image(1, "a"), image(2, "b"))
	l.Append(1, image(1, "c"))
	want(t, "checkpoint", l.Checkpoint(), api.OK)
	if l.Mark() != 0 || l.Pages() != 1 || l.Number() != 1 || d.Size(0) != 8 || d.Size(1) != 28 || d.Loose() != 0 {
		t.Error(l.Mark(), l.Pages(), l.Number(), d.Size(0), d.Size(1))
	}
}

func TestMended(t *testing.T) { // P5.4, P5.5: the head that is torn is mended
	for _, headed := range []bool{false, true} {
		d := files.New()
		l := opened(t, d)
		if headed {
			l.Append(1, image(1, "z"))
		}
		before, mark := told(t, l), l.Mark()
		d.Arm(3, api.ErrIO)
		want(t, "the head's sync", l.Append(2, image(2, "a")), api.ErrIO)
		if l.Mark() != mark || !same(told(t, l), before) {
			t.Error("an error changes nothing")
		}
		ops := d.Ops()
		d.Arm(0, api.ErrSpace)
		want(t, "mending", l.Append(1, image(1, "b")), api.ErrSpace)
		d.Arm(1, api.ErrSpace)
		want(t, "mending", l.Append(1, image(1, "b")), api.ErrSpace)
		if d.Ops() != ops+3 {
			t.Error(d.Ops() - ops)
		}
		ops = d.Ops()
		want(t, "append", l.Append(1, image(1, "b")), api.OK)
		if d.Ops() != ops+6 {
			t.Error("mended, and four more:", d.Ops()-ops)
		}
		ops = d.Ops()
		want(t, "append", l.Append(1, image(1, "c")), api.OK)
		if d.Ops() != ops+4 {
			t.Error("not torn any more:", d.Ops()-ops)
		}
		d.Arm(1, api.ErrIO)
		want(t, "the frames' sync", l.Append(1, image(1, "d")), api.ErrIO)
		ops = d.Ops()
		want(t, "append", l.Append(1, image(1, "e")), api.OK)
		if d.Ops() != ops+4 {
			t.Error("not torn by frames:", d.Ops()-ops)
		}
		d.Arm(3, api.ErrIO)
		want(t, "the head's sync", l.Checkpoint(), api.ErrIO)
		ops = d.Ops()
		want(t, "checkpoint", l.Checkpoint(), api.OK)
		if d.Ops() != ops+6 {
			t.Error("mended, and four more:", d.Ops()-ops)
		}
		if !same(told(t, opened(t, d)), []string{page("e")}) {
			t.Error("opened")
		}
	}
}

func TestOff(t *testing.T) { // P5.4, P5.5: ErrOff stays
	for k := range 4 {
		d := files.New()
		l := opened(t, d)
		want(t, "append", l.Append(1, image(1, "a")), api.OK)
		d.Power(k)
		want(t, "power", l.Append(1, image(1, "b")), api.ErrOff)
		d.Crash(nil)
		want(t, "append", l.Append(0), api.ErrOff)
		want(t, "checkpoint", l.Checkpoint(), api.ErrOff)
		l = opened(t, d)
		want(t, "append", l.Append(1, image(1, "c")), api.OK)
	}
}

// run: a script of appends and checkpoints, from seed; what each that was OK left, in order; the last one that failed, too.
type run struct {
	d     *files.Disk
	l     *Log
	model []string   // what the last one that was OK left
	tried [][]string // what those that failed since would have left
}

func (u *run) step(t *testing.T, r *rand.Rand) {
	if r.Intn(4) == 0 {
		u.l.Checkpoint()
		return
	}
	pages := 1 + r.Intn(5)
	next := append([]string{}, u.model...)
	var list []api.Image
	for len(next) < pages {
		next = append(next, noughts(512))
		list = append(list, api.Image{Page: len(next), Data: noughts(512)})
	}
	next = next[:pages]
	for range 1 + r.Intn(3) {
		m := image(1+r.Intn(pages), string(rune('a'+r.Intn(26))))
		next[m.Page-1] = m.Data
		list = append(list, m)
	}
	if u.l.Mark()+len(list) > api.MaxFrames {
		return
	}
	if e := u.l.Append(pages, list...); e == api.OK {
		u.model, u.tried = next, nil
	} else {
		u.tried = append(u.tried, next)
	}
	if u.d.On() && !same(told(t, u.l), u.model) {
		t.Fatal("P5.7: otherwise")
	}
}

func TestKept(t *testing.T) { // P5.6, P5.7
	for seed := range int64(400) {
		r := rand.New(rand.NewSource(seed))
		u := &run{d: files.New()}
		u.l = opened(t, u.d)
		for range 6 {
			u.d.Power(r.Intn(40))
			for u.d.On() {
				if r.Intn(5) == 0 {
					u.d.Arm(r.Intn(6), []api.Errno{api.ErrIO, api.ErrSpace}[r.Intn(2)])
				}
				u.step(t, r)
			}
			for range 8 {
				c := u.d.Copy()
				keep := make([]bool, c.Loose())
				odds := r.Intn(5)
				for i := range keep {
					keep[i] = r.Intn(4) < odds
				}
				c.Crash(keep)
				l := opened(t, c)
				got := told(t, l)
				ok := same(got, u.model)
				for _, x := range u.tried {
					ok = ok || same(got, x)
				}
				if !ok {
					t.Fatal("seed", seed, ": kept what was not there")
				}
				if again := told(t, opened(t, c)); !same(again, got) {
					t.Fatal("opened once more")
				}
				u.d, u.l, u.model, u.tried = c, l, got, nil
				if r.Intn(2) == 0 {
					break
				}
				u.d.Power(r.Intn(3)) // the power goes again, at recovery
				u.l.Checkpoint()
			}
		}
	}
}

func TestHeadNotWritten(t *testing.T) { // P5.4, P5.5: a Write of the head that fails tears nothing
	for _, fails := range []api.Errno{api.ErrIO, api.ErrSpace} {
		for _, headed := range []bool{false, true} {
			d := files.New()
			l := opened(t, d)
			if headed {
				want(t, "append", l.Append(1, image(1, "z")), api.OK)
			}
			mark, before, ops := l.Mark(), told(t, l), d.Ops()
			d.Arm(2, fails)
			want(t, "the head's write", l.Append(1, image(1, "a")), fails)
			if d.Ops() != ops+3 || l.Mark() != mark || !same(told(t, opened(t, d.Copy())), before) {
				t.Error(headed, d.Ops()-ops, l.Mark())
			}
			want(t, "append", l.Append(1, image(1, "a")), api.OK)
			if d.Ops() != ops+7 {
				t.Error("nothing was to be mended:", headed, d.Ops()-ops)
			}
			ops = d.Ops()
			d.Arm(2, fails)
			want(t, "the head's write", l.Checkpoint(), fails)
			want(t, "checkpoint", l.Checkpoint(), api.OK)
			if d.Ops() != ops+7 || !same(told(t, opened(t, d)), []string{page("a")}) {
				t.Error("nothing was to be mended:", headed, d.Ops()-ops)
			}
		}
	}
}

func TestTornStays(t *testing.T) { // P5.4, P5.5: a Write that fails mends nothing either
	calls := []func(l *Log) api.Errno{
		func(l *Log) api.Errno { return l.Append(1, image(1, "b")) },
		(*Log).Checkpoint,
	}
	for _, torn := range calls {
		for _, mends := range calls {
			d := files.New()
			l := opened(t, d)
			want(t, "append", l.Append(1, image(1, "a")), api.OK)
			d.Arm(3, api.ErrIO)
			want(t, "the head's sync", torn(l), api.ErrIO)
			ops := d.Ops()
			for range 2 {
				d.Arm(0, api.ErrSpace)
				want(t, "mending", mends(l), api.ErrSpace)
			}
			d.Arm(4, api.ErrIO)
			want(t, "mended, but the new head's write", mends(l), api.ErrIO)
			want(t, "not torn any more", mends(l), api.OK)
			if d.Ops() != ops+1+1+5+4 {
				t.Error(d.Ops() - ops)
			}
		}
	}
}

// steps: what a log does with its disk, as the promises say it, held against how many operations there are.
type steps struct {
	d     *files.Disk
	ops   int
	armed map[int]api.Errno
	torn  bool
}

const (
	stepOther = iota // writes of frames and pages, the cut, the main file's sync
	stepHead         // the head's write
	stepSync         // the log's sync
)

// arm: an operation fails.
func (s *steps) arm(n int, e api.Errno) {
	s.d.Arm(n, e)
	s.armed[s.ops+n] = e
}

// answer: what a call answers that does these kinds of operations, behind mending.
func (s *steps) answer(kinds ...int) api.Errno {
	if s.torn {
		kinds = append([]int{stepHead, stepSync}, kinds...)
	}
	for _, k := range kinds {
		e := s.armed[s.ops]
		s.ops++
		if e != api.OK {
			return e
		}
		switch k {
		case stepHead:
			s.torn = true
		case stepSync:
			s.torn = false
		}
	}
	return api.OK
}

// checkpoint: what a Checkpoint answers.
func (s *steps) checkpoint(l *Log) api.Errno {
	if l.Mark() == 0 {
		return api.OK
	}
	list, _ := l.Frames(0, l.Mark())
	laid, sectors := map[int]bool{}, s.d.Size(api.MainFile)
	for _, f := range list {
		if f.Page <= l.Pages() {
			laid[f.Page] = true
			sectors = max(sectors, 8*f.Page)
		}
	}
	var kinds []int
	for range laid {
		kinds = append(kinds, stepOther)
	}
	if sectors > 8*l.Pages() {
		kinds = append(kinds, stepOther)
	}
	return s.answer(append(kinds, stepOther, stepHead, stepSync)...)
}

func TestSteps(t *testing.T) { // P5.4, P5.5: just these steps, whatever fails
	for seed := range int64(300) {
		r := rand.New(rand.NewSource(seed))
		d := files.New()
		l := opened(t, d)
		s := &steps{d: d, armed: map[int]api.Errno{}}
		for range 40 {
			for range r.Intn(3) {
				s.arm(r.Intn(8), []api.Errno{api.ErrIO, api.ErrSpace}[r.Intn(2)])
			}
			var asked, answered api.Errno
			if r.Intn(3) == 0 {
				asked = s.checkpoint(l)
				answered = l.Checkpoint()
			} else {
				pages := 1 + r.Intn(5)
				asked = s.answer(stepOther, stepSync, stepHead, stepSync)
				answered = l.Append(pages, image(1+r.Intn(pages), "p"))
			}
			if answered != asked || d.Ops() != s.ops {
				t.Fatalf("seed %d: answered %d, not %d; %d operations, not %d", seed, answered, asked, d.Ops(), s.ops)
			}
		}
	}
}
