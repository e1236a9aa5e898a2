package world

import (
	"math/rand"
	"reflect"
	"slices"
	"strconv"
	"strings"
	"testing"

	"counterfoil/api"
	"counterfoil/archive"
	"counterfoil/engine"
	"counterfoil/pager"
	"counterfoil/space"
	"counterfoil/unit"
	"counterfoil/value"
)

const create = "CREATE TABLE t (a INTEGER, PRIMARY KEY (a))"

func run(s string) api.Act { return api.Act{Kind: api.ActRun, Text: s} }

func at(kind, node int) api.Act { return api.Act{Kind: kind, Node: node} }

func with(kind, n int) api.Act { return api.Act{Kind: kind, N: n} }

// told: an answer, as its error, or its answers.
func told(o api.Out) string {
	if o.E != api.OK {
		return "E" + strconv.Itoa(int(o.E))
	}
	s := "ok"
	for _, a := range o.Answers {
		s += " " + strconv.Itoa(a.N)
		if a.E != api.OK {
			s += "E" + strconv.Itoa(int(a.E))
		}
		for _, r := range a.Rows {
			s += "," + value.Literal(r[0])
		}
	}
	return s
}

// played: what the acts are answered.
func played(w *World, l ...api.Act) string {
	var r []string
	for _, o := range w.Play(l) {
		r = append(r, told(o))
	}
	return strings.Join(r, "; ")
}

// pages: all pages.
func pages(t testing.TB, p *pager.Pager) (l []string) {
	t.Helper()
	for n := 1; n <= p.Pages(); n++ {
		s, e := p.Read(n)
		if e != api.OK {
			t.Fatal(e)
		}
		l = append(l, s)
	}
	return l
}

func TestExamples(t *testing.T) { // P31.2
	w := New()
	if s := played(w, run(create), at(api.ActTick, 0)); s != "ok 0; ok" || len(w.Flight()) != 2 {
		t.Error(s)
	}
	if s := played(w, with(api.ActDeliver, 1), at(api.ActTick, 1), at(api.ActTick, 0), with(api.ActDeliver, 9)); s != "ok; ok; ok; E4" {
		t.Error(s)
	}
	if s := played(w, api.Act{Kind: api.ActPower}, run("INSERT INTO t (a) VALUES (1)"), run("SELECT * FROM t"), at(api.ActCrash, 0), run("SELECT * FROM t")); s != "ok; ok 0E32; E32; ok; ok 0" {
		t.Error(s)
	}
	if s := played(w, at(api.ActTick, 3), api.Act{}, with(api.ActStep, 0)); s != "E2; E2; E4" {
		t.Error(s)
	}
}

func TestNil(t *testing.T) { // P31.2, P31.3
	var w *World
	if o := w.Do(api.Act{}); o.E != api.ErrNil {
		t.Error(o)
	}
	if s := played(w, run("BEGIN"), api.Act{}); s != "E1; E1" {
		t.Error(s)
	}
	if w.Disk(0) != nil || w.Engine() != nil || w.Pager(0) != nil || w.Flight() != nil || w.Has(1) != 0 || w.Backup() != nil || w.Archive() != nil || w.Acts() != 0 {
		t.Error("nil")
	}
}

func TestMayBe(t *testing.T) { // P31.2: what is refused is not done
	w := New()
	for _, k := range []int{-1, 0, 15, 1 << 40} {
		if o := w.Do(with(k, 0)); o.E != api.ErrArg {
			t.Error(k, o)
		}
	}
	for k := api.ActRun; k <= api.ActRestore; k++ {
		for _, n := range []int{-1, 0, 1, 2, 3, 4, 5} {
			may := true
			switch k {
			case api.ActTick, api.ActCheckpoint:
				may = n >= 0 && n <= 2
			case api.ActArm, api.ActPower, api.ActCrash:
				may = n >= 0 && n <= 4
			}
			before := w.Acts()
			o := w.Do(api.Act{Kind: k, Node: n, N: 1 << 40, X: 1, Text: "BEGIN; ROLLBACK"})
			if may != (w.Acts() == before+1) || !may && (o.E != api.ErrArg || w.Acts() != before) {
				t.Error(k, n, o, w.Acts())
			}
		}
	}
}

func TestActs(t *testing.T) { // P31.2: act by act
	w := New()
	ins := func(n string) api.Act { return run("INSERT INTO t (a) VALUES (" + n + ")") }
	for i, c := range []struct {
		a    api.Act
		want string
	}{
		{run("SELEC"), "ok 0E6"}, {run(""), "ok"}, {run(create + "; INSERT INTO t (a) VALUES (1), (2)"), "ok 0 2"},
		{at(api.ActTick, 0), "ok"}, {at(api.ActTick, 2), "ok"}, // 1, 2: units of 1; 3: an ack
		{with(api.ActSpoil, 1), "E2"}, {api.Act{Kind: api.ActSpoil, N: 1, At: 99, X: 7}, "ok"}, {api.Act{Kind: api.ActSpoil, N: 1, At: 99, X: 7}, "E9"}, {with(api.ActDeliver, 1), "E40"}, {with(api.ActDeliver, 1), "E4"},
		{with(api.ActTwice, 2), "ok"}, {with(api.ActDeliver, 4), "ok"}, {with(api.ActDeliver, 2), "E4"}, {with(api.ActDrop, 3), "ok"}, {with(api.ActDrop, 3), "E4"}, {with(api.ActTwice, 3), "E4"}, // 5, 6: acks
		{with(api.ActDeliver, 5), "ok"}, {at(api.ActTick, 0), "ok"}, {with(api.ActDeliver, 8), "ok"}, {with(api.ActDeliver, 7), "ok"},
		{with(api.ActGather, 0), "ok"}, {with(api.ActGather, 0), "ok"}, {with(api.ActRestore, 1), "ok"}, {with(api.ActRestore, 2), "ok"}, {with(api.ActRestore, 3), "E4"}, {with(api.ActRestore, -1), "E4"}, {with(api.ActRestore, 2), "ok"},
		{with(api.ActBackup, 0), "ok"}, {with(api.ActStep, 1), "ok"}, {ins("3"), "ok 1"}, {with(api.ActStep, 9), "ok"}, {with(api.ActBackup, 0), "E9"}, {with(api.ActStep, 1), "ok"},
		{api.Act{Kind: api.ActArm, Node: 0, N: 0, X: 3}, "ok"}, {ins("4"), "ok 0E31"}, {api.Act{Kind: api.ActArm, Node: 0, N: 0, X: 2}, "ok"}, {ins("4"), "ok 0E30"}, {api.Act{Kind: api.ActArm, N: -1}, "E2"}, {api.Act{Kind: api.ActPower, N: -1}, "E2"},
		{at(api.ActCheckpoint, 0), "ok"}, {at(api.ActCheckpoint, 1), "ok"}, {run("BEGIN"), "ok 0"}, {at(api.ActCheckpoint, 0), "E9"}, {with(api.ActGather, 0), "E9"}, {at(api.ActTick, 0), "ok"}, {run("ROLLBACK; SELECT a FROM t"), "ok 0 3,1,2,3"},
	} {
		if s := told(w.Do(c.a)); s != c.want {
			t.Error(i, c.a, s)
		}
	}
	for n, k := range []uint64{3, 1, 2, 3, 2} { // node 1 has one commit, node 2 two
		g, e := engine.Open(w.Disk(n))
		if e != api.OK {
			t.Fatal(n, e)
		}
		if got, e := g.Commits(); got != k || e != api.OK {
			t.Error(n, got, e)
		}
	}
	if w.Has(2) != 1 || w.Has(1) != 0 || !w.Backup().Done() || len(w.Archive()) != 2 {
		t.Error(w.Has(1), w.Has(2))
	}
}

func TestOff(t *testing.T) { // a node that is off
	w := New()
	played(w, run(create), at(api.ActTick, 0), at(api.ActTick, 1), with(api.ActBackup, 0))
	for n := range 3 {
		w.Do(api.Act{Kind: api.ActPower, Node: n})
	}
	if s := played(w, run(create+"; DROP TABLE t"), at(api.ActCheckpoint, 1), at(api.ActCheckpoint, 2)); s != "ok 0E160 0E32; ok; ok" {
		t.Error(s)
	}
	w.Disk(1).Sync(0)
	w.Disk(2).Sync(0)
	w.Do(with(api.ActTwice, 1))
	if s := played(w, run("SELECT * FROM t"), at(api.ActTick, 0), at(api.ActTick, 1), with(api.ActDeliver, 1), with(api.ActDeliver, 1), with(api.ActDeliver, 3), at(api.ActCheckpoint, 0), at(api.ActCheckpoint, 1), with(api.ActBackup, 0), with(api.ActStep, 1), with(api.ActGather, 0), with(api.ActRestore, 1)); s != "E32; E32; E32; E32; E4; E32; E32; E32; E32; E32; E32; E4" {
		t.Error(s)
	}
	if s := played(w, with(api.ActDrop, 2), at(api.ActCrash, 1), with(api.ActDeliver, 4)); s != "ok; ok; ok" {
		t.Error(s)
	}
	if s := played(w, at(api.ActCrash, 0), with(api.ActStep, 1), run("SELECT * FROM t")); s != "ok; E4; ok 0" {
		t.Error("there is no backup any more:", s)
	}
}

func TestBackupGone(t *testing.T) { // a crash of the node that has the backup, or of the one that leads
	for n := range api.Nodes {
		w := New()
		s := played(w, run(create), with(api.ActBackup, 0), with(api.ActStep, 0), at(api.ActCrash, n), with(api.ActStep, 0))
		want := "ok 0; ok; ok; ok; ok"
		if n == api.NodeLead || n == api.NodeBackup {
			want = "ok 0; ok; ok; ok; E4"
		}
		if s != want || (w.Backup() == nil) != strings.HasSuffix(want, "E4") {
			t.Error(n, s)
		}
	}
}

func TestDown(t *testing.T) { // a node that is down
	w := New()
	played(w, run(create), at(api.ActTick, 0), with(api.ActDeliver, 1))
	for n := range 2 {
		w.Disk(n).Write(api.LogFile, 0, strings.Repeat("x", 64))
		w.Disk(n).Sync(api.LogFile)
		if s := played(w, at(api.ActCrash, n), at(api.ActTick, n), at(api.ActCheckpoint, n)); s != "E7; E32; E32" {
			t.Error(n, s)
		}
		if w.Pager(n) != nil {
			t.Error(n)
		}
	}
	if s := played(w, run(""), with(api.ActDeliver, 3), at(api.ActTick, 2)); s != "E32; E32; ok" || w.Engine() != nil || w.Has(1) != 0 {
		t.Error(s)
	}
	w.Disk(0).Cut(api.LogFile, 0)
	w.Disk(0).Sync(api.LogFile)
	if s := played(w, at(api.ActCrash, 0), run(create)); s != "ok; ok 0" || w.Engine() == nil || w.Pager(0) == nil {
		t.Error(s)
	}
}

func TestLooks(t *testing.T) { // P31.3, P31.5
	w := New()
	for n := -1; n <= 5; n++ {
		if (w.Disk(n) != nil) != (n >= 0 && n < 5) || (w.Pager(n) != nil) != (n >= 0 && n < 3) {
			t.Error(n)
		}
	}
	if w.Engine() == nil || w.Engine().Pager() != w.Pager(0) || w.Backup() != nil || w.Archive() != nil || w.Flight() != nil || w.Acts() != 0 {
		t.Error("a new world")
	}
	old := w.Disk(4)
	played(w, run(create), with(api.ActGather, 0), with(api.ActRestore, 7))
	if w.Disk(4) == old || w.Acts() != 3 {
		t.Error("a new disk")
	}
	l := w.Archive()
	l[0] = ""
	if k, e := archive.Known(w.Archive()); !slices.Equal(k, []uint64{1}) || e != api.OK {
		t.Error(k, e)
	}
}

func TestEpochs(t *testing.T) { // each start of the node 0 has the next epoch
	w := New()
	played(w, run(create), at(api.ActTick, 0), with(api.ActDeliver, 1), with(api.ActTwice, 3), with(api.ActDeliver, 3))
	if w.Has(1) != 1 {
		t.Error(w.Has(1))
	}
	played(w, at(api.ActCrash, 0))
	if w.Has(1) != 0 {
		t.Error(w.Has(1))
	}
	if s := played(w, with(api.ActDeliver, 4), at(api.ActTick, 0), with(api.ActDeliver, 5)); s != "ok; ok; ok" || w.Has(1) != 1 { // an ack of the epoch 1; a unit of the epoch 2 to the node 2
		t.Error(s, w.Has(1))
	}
	if s := played(w, with(api.ActDeliver, 2)); s != "E9" { // a unit of the epoch 1
		t.Error(s)
	}
}

func TestLost(t *testing.T) { // letters for which there is no room
	w := New()
	for range 70 {
		w.Do(at(api.ActTick, 1))
	}
	if n := len(w.Flight()); n != api.MaxFlight {
		t.Error(n)
	}
}

// random: an act, any one.
func random(r *rand.Rand, w *World) api.Act {
	id := 0
	if l := w.Flight(); len(l) > 0 {
		id = l[r.Intn(len(l))].Id
	}
	a := api.Act{Kind: []int{api.ActRun, api.ActRun, api.ActRun, api.ActTick, api.ActTick, api.ActTick, api.ActDeliver, api.ActDeliver, api.ActDeliver, api.ActDeliver, api.ActDrop, api.ActTwice, api.ActSpoil, api.ActArm, api.ActPower, api.ActCrash, api.ActCrash, api.ActCheckpoint, api.ActBackup, api.ActStep, api.ActStep, api.ActGather, api.ActRestore}[r.Intn(23)], N: id}
	switch a.Kind {
	case api.ActRun:
		n := strconv.Itoa(r.Intn(9))
		a.Text = []string{"INSERT INTO t (a, b) VALUES (" + n + ", '" + strings.Repeat("w", r.Intn(300)) + "')", "DELETE FROM t WHERE a = " + n, "UPDATE t SET b = b || 'z'", "CREATE INDEX i ON t (a)", "DROP INDEX i", "UPDATE t SET a = a + 1"}[r.Intn(6)]
	case api.ActTick, api.ActCheckpoint:
		a.Node = r.Intn(3)
	case api.ActSpoil:
		a.At, a.X = r.Intn(60), uint8(1+r.Intn(255))
	case api.ActArm:
		a.Node, a.N, a.X = r.Intn(5), r.Intn(4), uint8(r.Intn(2))
	case api.ActPower:
		a.Node, a.N = r.Intn(5), r.Intn(6)
	case api.ActCrash:
		a.Node = r.Intn(5)
		for range r.Intn(60) {
			a.Keep = append(a.Keep, r.Intn(2) == 0)
		}
	case api.ActStep:
		a.N = 1 + r.Intn(4)
	case api.ActRestore:
		a.N = 1 + r.Intn(6)
	}
	return a
}

// watch keeps what the leading database was behind each commit that may last, and checks what the others are.
type watch struct {
	states map[uint64][][]string
	have   [3]uint64
}

// has: whether one of the states behind commit k has these pages.
func (c *watch) has(k uint64, p []string) bool {
	return slices.ContainsFunc(c.states[k], func(s []string) bool { return slices.Equal(s, p) })
}

func (c *watch) look(t *testing.T, w *World) {
	t.Helper()
	for n := range 3 {
		p := w.Pager(n)
		if !w.Disk(n).On() || p == nil {
			continue
		}
		k, e := unit.Have(p)
		if e != api.OK {
			t.Fatal(n, e)
		}
		is := pages(t, p)
		if n == 0 {
			if !c.has(k, is) {
				c.states[k] = append(c.states[k], is)
			}
			continue
		}
		if k > 0 && !c.has(k, is) {
			t.Fatal("the node", n, "is not what the leading one was behind", k)
		}
		if k < c.have[n] {
			t.Fatal("fewer commits:", n, k)
		}
		c.have[n] = k
	}
	for _, n := range []int{api.NodeBackup, api.NodeRestore} { // whole or none
		d := w.Disk(n).Copy()
		d.Crash(nil)
		p, e := pager.Open(d)
		if e != api.OK || p.Pages() == 0 {
			continue
		}
		if h, e := space.Read(p); e == api.OK && !c.has(h.Commits, pages(t, p)) {
			t.Fatal("the node", n, "is not what the leading one was")
		}
	}
}

func TestTogether(t *testing.T) { // P4, P7, P8 of the whole; P31.4
	for seed := range int64(40) {
		r := rand.New(rand.NewSource(seed))
		w := New()
		first := run("CREATE TABLE t (a INTEGER, b TEXT, PRIMARY KEY (a))")
		acts := []api.Act{first}
		outs := []api.Out{w.Do(first)}
		c := &watch{states: map[uint64][][]string{}}
		c.look(t, w)
		for range 250 {
			a := random(r, w)
			if a.Kind == api.ActBackup && w.Backup() != nil && !w.Backup().Done() {
				continue // a second one over the first one: see the chapter
			}
			acts = append(acts, a)
			outs = append(outs, w.Do(a))
			c.look(t, w)
		}
		// Played at once, and in parts, they are answered the same.
		again, parts := New(), New()
		if l := again.Play(acts); !reflect.DeepEqual(l, outs) || again.Acts() != len(acts) {
			t.Fatal("played at once")
		}
		k := r.Intn(len(acts))
		if l := append(parts.Play(acts[:k]), parts.Play(acts[k:])...); !reflect.DeepEqual(l, outs) || !reflect.DeepEqual(parts.Flight(), w.Flight()) {
			t.Fatal("played in parts")
		}
		calm(t, w, c)
	}
}

// calm: nothing fails any more, and all come to be what the leading one is.
func calm(t *testing.T, w *World, c *watch) {
	t.Helper()
	for n := range api.Nodes {
		if s := played(w, at(api.ActCrash, n)); s != "ok" {
			t.Fatal(s)
		}
	}
	c.look(t, w)
	for range 60 {
		for n := range 3 {
			w.Do(at(api.ActTick, n))
		}
		for l := w.Flight(); len(l) > 0; l = w.Flight() {
			w.Do(with(api.ActDeliver, l[0].Id))
		}
		c.look(t, w)
	}
	for n := 1; n < 3; n++ {
		if !slices.Equal(pages(t, w.Pager(n)), pages(t, w.Pager(0))) {
			t.Fatal("in calm it comes to be the newest one:", n)
		}
	}
	known, _ := archive.Known(w.Archive())
	for _, k := range known {
		if s := played(w, with(api.ActRestore, int(k))); s != "ok" {
			t.Fatal(s)
		}
		p, _ := pager.Open(w.Disk(api.NodeRestore))
		if !c.has(k, pages(t, p)) {
			t.Fatal("restored otherwise:", k)
		}
	}
}
