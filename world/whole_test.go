package world

import (
	"slices"
	"strings"
	"testing"

	"counterfoil/api"
	"counterfoil/apply"
	"counterfoil/change"
	"counterfoil/engine"
	"counterfoil/files"
	"counterfoil/pager"
	"counterfoil/rebase"
	"counterfoil/space"
	"counterfoil/unit"
)

const (
	table = "CREATE TABLE t (a INTEGER, b TEXT, PRIMARY KEY (a))"
	rows  = "INSERT INTO t (a, b) VALUES (1, 'one'), (2, NULL)"
	look  = "SELECT b FROM t"
)

func TestEightExamples(t *testing.T) { // the document's examples of the whole: 1 to 5, 7
	w := New()
	if s := played(w, run(create)); s != "ok 0" || w.Pager(0).Pages() != 2 {
		t.Error(s, w.Pager(0).Pages())
	}
	w = New()
	if s := played(w, run(table), with(api.ActGather, 0), run(rows+"; SELECT b FROM t WHERE a = 2"), with(api.ActGather, 0)); s != "ok 0; ok; ok 2 1,NULL; ok" {
		t.Error(s)
	}
	if s := played(w, api.Act{Kind: api.ActArm}, run("UPDATE t SET b = 'x'"), run(look), run("UPDATE t SET b = 'x'"), with(api.ActGather, 0)); s != "ok; ok 0E30; ok 2,'one',NULL; ok 2; ok" {
		t.Error(s)
	}
	for k := range 5 {
		for keep := range 16 {
			v := New()
			played(v, run(table), run(rows), api.Act{Kind: api.ActPower, N: k}, run("UPDATE t SET b = 'x'"))
			crash := at(api.ActCrash, 0)
			for i := range 40 {
				crash.Keep = append(crash.Keep, keep>>(i%4)&1 == 1)
			}
			if s := played(v, crash, run(look)); s != "ok; ok 2,'one',NULL" && s != "ok; ok 2,'x','x'" {
				t.Error(k, keep, s)
			}
		}
	}
	v := New()
	if s := played(v, run(table), at(api.ActTick, 0), with(api.ActDeliver, 1), api.Act{Kind: api.ActSpoil, N: 2, At: 60, X: 1}, with(api.ActDeliver, 2)); s != "ok 0; ok; ok; ok; E40" {
		t.Error(s)
	}
	if k, e := unit.Have(v.Pager(2)); k != 0 || e != api.OK {
		t.Error(k, e)
	}
	if s := played(v, at(api.ActTick, 0), with(api.ActDeliver, 5)); s != "ok; ok" || !slices.Equal(pages(t, v.Pager(2)), pages(t, v.Pager(0))) {
		t.Error(s)
	}
	if s := played(w, run("DELETE FROM t"), with(api.ActGather, 0), with(api.ActRestore, 2)); s != "ok 2; ok; ok" {
		t.Error(s)
	}
	g, e := engine.Open(w.Disk(api.NodeRestore))
	if a := g.Run(look); e != api.OK || a[0].N != 2 {
		t.Error(a, e)
	}
}

func TestBackupExample(t *testing.T) { // the document's example 6
	w := New()
	played(w, run(table), run(rows), with(api.ActBackup, 0), with(api.ActStep, 1), run("DELETE FROM t WHERE a = 1"))
	p, _ := pager.Open(w.Disk(api.NodeBackup))
	if _, e := space.Read(p); e != api.ErrBytes {
		t.Error(e)
	}
	if s := played(w, with(api.ActStep, 9)); s != "ok" || !w.Backup().Done() || w.Backup().Restarts() != 1 {
		t.Error(s)
	}
	p, _ = pager.Open(w.Disk(api.NodeBackup))
	if !slices.Equal(pages(t, p), pages(t, w.Pager(0))) {
		t.Error("not what the database is")
	}
}

func TestMeetExample(t *testing.T) { // the document's example 8
	var engines [2]*engine.Engine
	var made [2][]api.Change
	for i, s := range []string{"UPDATE t SET b = 'uno' WHERE a = 1", "DELETE FROM t WHERE a = 1"} {
		g, e := engine.Open(files.New())
		if e != api.OK {
			t.Fatal(e)
		}
		g.Run(table + ";" + rows + ";" + s)
		engines[i] = g
		if made[i], e = change.Merge(g.Last()); e != api.OK {
			t.Fatal(e)
		}
	}
	for i, g := range engines {
		theirs, e := rebase.Upon(made[1-i], made[i], i == 1) // the first one's are to win
		if e != api.OK {
			t.Fatal(e)
		}
		p := g.Pager()
		space.Begin(p)
		if n, e := apply.Do(p, theirs, api.Policy{Differs: api.WayAbort, Exists: api.WayAbort, Missing: api.WayAbort, Fails: api.WayAbort}); n.Done != len(theirs) || e != api.OK {
			t.Error(i, n, e)
		}
		space.Commit(p)
		var b strings.Builder
		for _, r := range g.Run(look)[0].Rows {
			b.WriteString(r[0].S + ";")
		}
		if b.String() != "uno;;" {
			t.Error(i, b.String())
		}
	}
}
