package files

import (
	"math/rand"
	"strings"
	"testing"

	"counterfoil/api"
)

// sectors: a text of a sector for each letter.
func sectors(letters string) string {
	var b strings.Builder
	for _, c := range []byte(letters) {
		b.WriteString(strings.Repeat(string(c), api.Sector))
	}
	return b.String()
}

// noughts: n sectors of bytes 0.
func noughts(n int) string { return strings.Repeat("\x00", n*api.Sector) }

// all: all that a file has.
func all(t *testing.T, d *Disk, f int) string {
	t.Helper()
	s, e := d.Read(f, 0, d.Size(f))
	if e != api.OK {
		t.Fatal(e)
	}
	return s
}

// want: fails unless the errors are those.
func want(t *testing.T, what string, got, e api.Errno) {
	t.Helper()
	if got != e {
		t.Errorf("%s: %d, not %d", what, got, e)
	}
}

func TestSizeRead(t *testing.T) { // P3.1
	d := New()
	if d.Size(0) != 0 || d.Size(-1) != 0 || d.Size(api.MaxFiles) != 0 || (*Disk)(nil).Size(0) != 0 {
		t.Error("sizes")
	}
	want(t, "write", d.Write(0, 1, sectors("a")), api.OK)
	if s, e := d.Read(0, 0, 1); d.Size(0) != 2 || s != noughts(1) || e != api.OK {
		t.Error(d.Size(0), s, e)
	}
	if s, e := d.Read(0, 0, 2); s != noughts(1)+sectors("a") || e != api.OK {
		t.Error(s, e)
	}
	if s, e := d.Read(0, 2, 0); s != "" || e != api.OK {
		t.Error(s, e)
	}
	for _, c := range []struct {
		f, at, n int
		e        api.Errno
	}{
		{0, 1, 2, api.ErrRange}, {0, 3, 0, api.ErrRange}, {0, -1, 1, api.ErrRange}, {0, 0, -1, api.ErrRange},
		{0, 1 << 62, 1 << 62, api.ErrRange}, {0, 1, 1<<63 - 1, api.ErrRange}, {1, 0, 1, api.ErrRange},
		{8, 0, 0, api.ErrArg}, {-1, -1, 0, api.ErrArg},
	} {
		if s, e := d.Read(c.f, c.at, c.n); s != "" || e != c.e {
			t.Error(c, s, e)
		}
	}
	d.Power(0)
	d.Sync(0)
	if _, e := d.Read(9, 0, 1); e != api.ErrOff || d.Size(0) != 2 {
		t.Error(e)
	}
	if _, e := (*Disk)(nil).Read(9, 0, 1); e != api.ErrNil {
		t.Error(e)
	}
}

func TestChanges(t *testing.T) { // P3.2
	d := New()
	want(t, "no whole sector", d.Write(0, 0, sectors("a")[1:]), api.ErrArg)
	want(t, "no sector", d.Write(0, 0, ""), api.ErrArg)
	want(t, "no file", d.Write(8, 0, sectors("a")), api.ErrArg)
	want(t, "no place", d.Write(0, -1, sectors("a")), api.ErrRange)
	want(t, "no place, no sector", d.Write(0, -1, "a"), api.ErrArg)
	want(t, "too far", d.Write(0, api.MaxSectors, sectors("a")), api.ErrRange)
	want(t, "too far", d.Write(0, api.MaxSectors-1, sectors("ab")), api.ErrRange)
	want(t, "huge", d.Write(0, 1<<63-1, sectors("ab")), api.ErrRange)
	want(t, "too many", d.Write(0, 0, noughts(api.MaxSectors+1)), api.ErrRange)
	want(t, "cut", d.Cut(0, 1), api.ErrRange)
	want(t, "cut", d.Cut(0, -1), api.ErrRange)
	want(t, "cut", d.Cut(-1, 0), api.ErrArg)
	want(t, "sync", d.Sync(8), api.ErrArg)
	if d.Ops() != 0 || d.Loose() != 0 {
		t.Error("what may not be is no operation")
	}
	want(t, "last", d.Write(0, api.MaxSectors-1, sectors("z")), api.OK)
	want(t, "all", d.Write(7, 0, noughts(api.MaxSectors)), api.OK)
	want(t, "write", d.Write(1, 1, sectors("ab")), api.OK)
	want(t, "over", d.Write(1, 2, sectors("cd")), api.OK)
	if all(t, d, 1) != noughts(1)+sectors("acd") {
		t.Error(all(t, d, 1))
	}
	want(t, "cut", d.Cut(1, 2), api.OK)
	want(t, "cut", d.Cut(1, 2), api.OK)
	want(t, "write", d.Write(1, 3, sectors("e")), api.OK)
	if all(t, d, 1) != noughts(1)+sectors("a")+noughts(1)+sectors("e") {
		t.Error("what was cut is gone:", all(t, d, 1))
	}
	if d.Ops() != 7 || d.Loose() != 1+api.MaxSectors+2+2+1+1+1 {
		t.Error(d.Ops(), d.Loose())
	}
	want(t, "sync", d.Sync(7), api.OK)
	if d.Ops() != 8 || d.Loose() != 8 {
		t.Error(d.Ops(), d.Loose())
	}
	want(t, "nil", (*Disk)(nil).Write(9, 0, ""), api.ErrNil)
	want(t, "nil", (*Disk)(nil).Cut(9, 0), api.ErrNil)
	want(t, "nil", (*Disk)(nil).Sync(9), api.ErrNil)
}

func TestArm(t *testing.T) { // P3.3
	d := New()
	for _, n := range []int{-1, 1<<40 + 1, -1 << 63} {
		want(t, "arm", d.Arm(n, api.ErrIO), api.ErrArg)
		want(t, "power", d.Power(n), api.ErrArg)
	}
	want(t, "arm", d.Arm(0, api.ErrOff), api.ErrArg)
	want(t, "arm", d.Arm(0, api.OK), api.ErrArg)
	want(t, "arm", d.Arm(1<<40, api.ErrSpace), api.OK)
	want(t, "power", d.Power(1<<40), api.OK)
	want(t, "nil", (*Disk)(nil).Arm(-1, 0), api.ErrNil)
	want(t, "nil", (*Disk)(nil).Power(-1), api.ErrNil)

	d.Write(1, 0, sectors("aa"))
	want(t, "arm", d.Arm(1, api.ErrSpace), api.OK)
	want(t, "arm in its place", d.Arm(1, api.ErrIO), api.OK)
	want(t, "arm two", d.Arm(3, api.ErrSpace), api.OK)
	want(t, "ahead", d.Sync(1), api.OK)
	want(t, "armed", d.Write(1, 0, sectors("b")), api.ErrIO)
	want(t, "behind", d.Write(1, 1, sectors("c")), api.OK)
	want(t, "armed", d.Cut(1, 0), api.ErrSpace)
	want(t, "behind", d.Cut(1, 2), api.OK)
	if all(t, d, 1) != sectors("ac") || d.Ops() != 6 {
		t.Error(all(t, d, 1), d.Ops())
	}
	d.Power(5)
	d.Power(1)
	want(t, "what may not be counts for nothing", d.Sync(9), api.ErrArg)
	want(t, "ahead", d.Sync(1), api.OK)
	d.Arm(0, api.ErrIO)
	want(t, "the power goes", d.Cut(1, 0), api.ErrOff)
	want(t, "off", d.Write(-1, 0, ""), api.ErrOff)
	want(t, "off", d.Cut(-1, 0), api.ErrOff)
	want(t, "off", d.Sync(-1), api.ErrOff)
	if d.On() || d.Ops() != 8 || d.Size(1) != 2 {
		t.Error(d.On(), d.Ops(), d.Size(1))
	}
	want(t, "while it is off", d.Arm(0, api.ErrIO), api.OK)
	want(t, "while it is off", d.Power(0), api.OK)
	want(t, "crash", d.Crash(nil), api.OK)
	want(t, "nothing is armed", d.Sync(1), api.OK)
	if !d.On() || d.Ops() != 9 {
		t.Error(d.On(), d.Ops())
	}
}

func TestCrash(t *testing.T) { // P3.4
	d := New()
	d.Write(0, 1, sectors("a"))
	if d.Loose() != 1 {
		t.Error(d.Loose())
	}
	want(t, "crash", d.Crash([]bool{false}), api.OK)
	if d.Size(0) != 0 || d.Loose() != 0 {
		t.Error(d.Size(0), d.Loose())
	}
	d.Write(1, 0, sectors("aa"))
	d.Crash([]bool{false, true})
	if all(t, d, 1) != noughts(1)+sectors("a") {
		t.Error(all(t, d, 1))
	}
	d.Write(1, 0, sectors("b")) // loose: b, 2 of file 2, cut, c
	d.Write(2, 0, sectors("xy"))
	d.Cut(1, 1)
	d.Write(1, 2, sectors("c"))
	e := d.Copy()
	d.Crash([]bool{false, true, false, true})
	if all(t, d, 1) != noughts(1) || all(t, d, 2) != sectors("x") {
		t.Error(all(t, d, 1), all(t, d, 2))
	}
	e.Crash([]bool{true, false, true, false, true, true, true})
	if all(t, e, 1) != sectors("bac") || all(t, e, 2) != noughts(1)+sectors("y") {
		t.Error(all(t, e, 1), all(t, e, 2))
	}
	e.Crash(nil)
	if all(t, e, 1) != sectors("bac") {
		t.Error("what a crash left is sure")
	}
	want(t, "nil", (*Disk)(nil).Crash(nil), api.ErrNil)
}

func TestCutThatIsKept(t *testing.T) { // P3.4: a cut of more than there is makes nothing otherwise
	d := New()
	d.Write(0, 0, sectors("abc"))
	d.Cut(0, 2)
	d.Crash([]bool{true, false, false, true})
	if all(t, d, 0) != sectors("a") {
		t.Error(all(t, d, 0))
	}
}

func TestLooks(t *testing.T) { // P3.5
	var n *Disk
	if n.On() || n.Ops() != 0 || n.Loose() != 0 || n.Copy() != nil {
		t.Error("nil")
	}
	d := New()
	d.Write(0, 0, sectors("a"))
	d.Arm(0, api.ErrIO)
	d.Power(2)
	e := d.Copy()
	for _, x := range []*Disk{d, e} {
		want(t, "armed", x.Sync(0), api.ErrIO)
		want(t, "write", x.Write(0, 0, sectors("b")), api.OK)
		want(t, "power", x.Sync(0), api.ErrOff)
		if x.On() || x.Ops() != 4 || x.Loose() != 2 {
			t.Error(x.On(), x.Ops(), x.Loose())
		}
	}
	d.Crash([]bool{true, true})
	if d.Size(0) != 1 || e.On() || e.Loose() != 2 {
		t.Error("a copy goes on by itself")
	}
	e.Crash(nil)
	if d.Size(0) != 1 || e.Size(0) != 0 {
		t.Error("a copy goes on by itself")
	}
}

// model is a disk by the words of the chapter alone: all changes since the beginning that last, and those that are loose.
type model struct {
	sure [api.MaxFiles]string
	list []change
}

func (m *model) apply(s string, c change) string {
	if c.cut {
		return s[:min(len(s), c.at*api.Sector)]
	}
	for len(s) < (c.at+1)*api.Sector {
		s += noughts(1)
	}
	return s[:c.at*api.Sector] + string(c.bytes[:]) + s[(c.at+1)*api.Sector:]
}

func (m *model) now(f int) string {
	s := m.sure[f]
	for _, c := range m.list {
		if c.file == f {
			s = m.apply(s, c)
		}
	}
	return s
}

func (m *model) sync(f int) {
	m.sure[f] = m.now(f)
	var l []change
	for _, c := range m.list {
		if c.file != f {
			l = append(l, c)
		}
	}
	m.list = l
}

func (m *model) crash(keep []bool) {
	for i, c := range m.list {
		if i < len(keep) && keep[i] {
			m.sure[c.file] = m.apply(m.sure[c.file], c)
		}
	}
	m.list = nil
}

func TestModel(t *testing.T) { // P3.1 to P3.4, P3.6, P3.7
	r := rand.New(rand.NewSource(5))
	for range 60 {
		d, m := New(), &model{}
		for range 80 {
			f := r.Intn(3)
			fails := r.Intn(6) == 0
			if fails {
				d.Arm(0, []api.Errno{api.ErrIO, api.ErrSpace}[r.Intn(2)])
			}
			switch r.Intn(8) {
			case 0, 1, 2, 3:
				s := sectors(string(rune('a'+r.Intn(26))) + "bc"[:r.Intn(3)])
				at := r.Intn(6)
				if e := d.Write(f, at, s); (e != api.OK) != fails {
					t.Fatal(e)
				}
				for i := 0; i < len(s) && !fails; i += api.Sector {
					c := change{file: f, at: at + i/api.Sector}
					copy(c.bytes[:], s[i:])
					m.list = append(m.list, c)
				}
			case 4:
				n := r.Intn(d.Size(f) + 1)
				if e := d.Cut(f, n); (e != api.OK) != fails {
					t.Fatal(e)
				}
				if !fails {
					m.list = append(m.list, change{file: f, at: n, cut: true})
				}
			case 5, 6:
				if e := d.Sync(f); (e != api.OK) != fails {
					t.Fatal(e)
				}
				if !fails {
					m.sync(f)
				}
			default:
				if r.Intn(3) > 0 {
					d.Sync(7)
					continue
				}
				keep := make([]bool, r.Intn(12))
				for i := range keep {
					keep[i] = r.Intn(2) == 0
				}
				d.Crash(keep)
				m.crash(keep)
			}
			for f := range 3 {
				if all(t, d, f) != m.now(f) {
					t.Fatal("otherwise")
				}
			}
			if d.Loose() != len(m.list) {
				t.Fatal(d.Loose(), len(m.list))
			}
		}
		e := d.Copy()
		keep := make([]bool, d.Loose())
		for i := range keep {
			keep[i] = true
		}
		before := []string{all(t, d, 0), all(t, d, 1), all(t, d, 2)}
		d.Crash(keep)
		e.Crash(nil)
		for f, s := range before { // P3.6: all kept, nothing otherwise; nothing kept, what is sure
			if all(t, d, f) != s || all(t, e, f) != m.sure[f] {
				t.Fatal("crash")
			}
		}
		d.Crash(nil)
		for f, s := range before {
			if all(t, d, f) != s {
				t.Fatal("a crash behind which nothing is loose")
			}
		}
	}
}
