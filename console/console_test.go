package console

import (
	"math"
	"math/rand"
	"reflect"
	"strconv"
	"strings"
	"testing"

	"counterfoil/api"
)

func TestExamples(t *testing.T) { // P32.3
	c := New()
	for _, k := range [][2]string{
		{"run CREATE TABLE t (a INTEGER, PRIMARY KEY (a))", "ok 0\n"},
		{"run INSERT INTO t (a) VALUES (1); SELECT a, a + 1 FROM t", "ok 1\nok 1\na, -\n1, 2\n"},
		{"tick 0", "ok\n"}, {"flight", "1 0 1 1096\n2 0 2 1096\n"}, {"has", "0 0\n"},
		{"tick", "error 6\n"}, {"tick 9", "error 2\n"}, {"ask 9 SELECT * FROM t", "error 2\n"}, {"crash 1 +-", "ok\n"}, {"acts", "4\n"},
	} {
		if s := c.Do(k[0]); s != k[1] {
			t.Errorf("%s: %q", k[0], s)
		}
	}
}

func TestLine(t *testing.T) { // P32.1
	for _, k := range []struct {
		a api.Act
		s string
	}{
		{api.Act{Kind: api.ActRun, Text: "SELECT  'a'\t"}, "run SELECT  'a'\t"}, {api.Act{Kind: api.ActRun}, "run "}, {api.Act{Kind: api.ActRun, Text: " "}, "run  "},
		{api.Act{Kind: api.ActTick, Node: 2}, "tick 2"}, {api.Act{Kind: api.ActTick, Node: -9}, "tick -9"}, {api.Act{Kind: api.ActCheckpoint}, "checkpoint 0"},
		{api.Act{Kind: api.ActDeliver, N: 7}, "deliver 7"}, {api.Act{Kind: api.ActDrop, N: math.MaxInt}, "drop 9223372036854775807"}, {api.Act{Kind: api.ActTwice, N: math.MinInt}, "twice -9223372036854775808"}, {api.Act{Kind: api.ActStep, N: 3}, "step 3"}, {api.Act{Kind: api.ActRestore, N: 0}, "restore 0"},
		{api.Act{Kind: api.ActSpoil, N: 1, At: 2, X: 255}, "spoil 1 2 255"}, {api.Act{Kind: api.ActSpoil}, "spoil 0 0 0"}, {api.Act{Kind: api.ActArm, Node: 1, N: 2, X: 1}, "arm 1 2 io"}, {api.Act{Kind: api.ActArm, Node: 1, N: 2}, "arm 1 2 space"}, {api.Act{Kind: api.ActPower, Node: 4, N: 5}, "power 4 5"},
		{api.Act{Kind: api.ActCrash, Node: 3}, "crash 3"}, {api.Act{Kind: api.ActCrash, Node: 3, Keep: []bool{true, false, true}}, "crash 3 +-+"}, {api.Act{Kind: api.ActBackup}, "backup"}, {api.Act{Kind: api.ActGather}, "gather"},
	} {
		if s, e := Line(k.a); s != k.s || e != api.OK {
			t.Errorf("%v: %q %d", k.a, s, e)
		}
		if a, e := Read(k.s); !reflect.DeepEqual(a, k.a) || e != api.OK {
			t.Errorf("%q: %v %d", k.s, a, e)
		}
	}
	keep := []bool{true}
	for i, a := range []api.Act{
		{}, {Kind: 15}, {Kind: -1}, {Kind: api.ActRun, Text: "a\nb"}, {Kind: api.ActRun, Node: 1}, {Kind: api.ActRun, Keep: keep}, {Kind: api.ActTick, N: 1}, {Kind: api.ActTick, Text: "x"}, {Kind: api.ActDeliver, Node: 1}, {Kind: api.ActDrop, At: 1}, {Kind: api.ActTwice, X: 1}, {Kind: api.ActSpoil, Node: 1}, {Kind: api.ActSpoil, Keep: keep},
		{Kind: api.ActArm, X: 2}, {Kind: api.ActArm, At: 1}, {Kind: api.ActPower, X: 1}, {Kind: api.ActCrash, N: 1}, {Kind: api.ActCrash, Text: "+"}, {Kind: api.ActCheckpoint, N: 1}, {Kind: api.ActBackup, Node: 1}, {Kind: api.ActGather, N: 1}, {Kind: api.ActRestore, X: 1}, {Kind: api.ActStep, Keep: keep},
	} {
		if s, e := Line(a); s != "" || e != api.ErrArg {
			t.Errorf("%d: %q %d", i, s, e)
		}
	}
}

func TestRead(t *testing.T) { // P32.1
	big := "9223372036854775808"
	for _, k := range []struct {
		s string
		e api.Errno
	}{
		{"", api.ErrText}, {"run", api.ErrText}, {" run x", api.ErrText}, {"run a\nb", api.ErrText}, {"run \n", api.ErrText}, {"RUN x", api.ErrText}, {"runx", api.ErrText}, {"flight", api.ErrText}, {"# x", api.ErrText},
		{"tick", api.ErrText}, {"tick ", api.ErrText}, {"tick 1 ", api.ErrText}, {"tick  1", api.ErrText}, {"tick 1 2", api.ErrText}, {"tick 01", api.ErrText}, {"tick -0", api.ErrText}, {"tick +1", api.ErrText}, {"tick x", api.ErrText}, {"tick 1\t", api.ErrText}, {"tick 1\n", api.ErrText}, {"tick '1'", api.ErrText}, {"tick NULL", api.ErrText}, {"tick 1a", api.ErrText}, {"tick -", api.ErrText}, {"tick --1", api.ErrText},
		{"tick " + big, api.ErrRange}, {"tick -9223372036854775809", api.ErrRange}, {"tick 0" + big, api.ErrText}, {"tick -" + big + "0", api.ErrRange}, {"tick " + big + " ", api.ErrText}, {"deliver " + strings.Repeat("9", 2000), api.ErrRange},
		{"spoil 1 2", api.ErrText}, {"spoil 1 2 3 4", api.ErrText}, {"spoil 1 2 256", api.ErrRange}, {"spoil 1 2 -1", api.ErrRange}, {"spoil " + big + " 2 x", api.ErrText}, {"spoil x 2 256", api.ErrText}, {"spoil " + big + " 2 256", api.ErrRange}, {"spoil 1 2 256 ", api.ErrText},
		{"arm 1 2", api.ErrText}, {"arm 1 2 IO", api.ErrText}, {"arm 1 2 io ", api.ErrText}, {"arm 1 2 full", api.ErrText}, {"arm 1 " + big + " io", api.ErrRange}, {"arm 1 " + big + " ?", api.ErrText}, {"arm 1 2 ", api.ErrText}, {"power 1", api.ErrText},
		{"crash", api.ErrText}, {"crash 1 ", api.ErrText}, {"crash 1 +x", api.ErrText}, {"crash 1 + -", api.ErrText}, {"crash 1 +- ", api.ErrText}, {"crash 1 \xff", api.ErrText}, {"crash " + big + " +", api.ErrRange}, {"crash " + big + " ?", api.ErrText},
		{"backup ", api.ErrText}, {"backup 1", api.ErrText}, {"gather ", api.ErrText}, {"restore", api.ErrText}, {"step 1.0", api.ErrText}, {"ask 0 x", api.ErrText},
	} {
		if a, e := Read(k.s); !reflect.DeepEqual(a, api.Act{}) || e != k.e {
			t.Errorf("%.40q: %v %d", k.s, a, e)
		}
	}
}

func TestLines(t *testing.T) { // P32.2
	v := func(n int64) api.Value { return api.Value{Kind: api.KInt, N: n} }
	for _, k := range []struct {
		a api.Answer
		s string
	}{
		{api.Answer{}, "ok 0\n"}, {api.Answer{N: 3}, "ok 3\n"}, {api.Answer{E: api.ErrText}, "error 6\n"}, {api.Answer{E: api.ErrRange, At: 12}, "error 5 at 12\n"}, {api.Answer{E: api.ErrUnique, N: 3, Names: []string{"a"}}, "error 171\n"},
		{api.Answer{N: 0, Names: []string{"a"}}, "ok 0\na\n"}, {api.Answer{N: 2, Names: []string{"a", "", "b"}, Rows: [][]api.Value{{v(1), {}, {Kind: api.KText, S: "it's"}}, {v(-2), {Kind: api.KBlob, S: "\x0f"}, v(0)}}}, "ok 2\na, -, b\n1, NULL, 'it''s'\n-2, x'0f', 0\n"},
	} {
		if s := Lines(k.a); s != k.s {
			t.Errorf("%v: %q", k.a, s)
		}
	}
}

func TestDo(t *testing.T) { // P32.3
	var none *Console
	if none.Do("acts") != "" || none.Run("acts") != "" || none.World() != nil {
		t.Error("nil")
	}
	c := New()
	for i, k := range [][2]string{
		{"", ""}, {"#", ""}, {"# run BEGIN", ""}, {" ", "error 6\n"}, {"flight", ""}, {"has", "0 0\n"}, {"archive", "\n"}, {"copy", "none\n"}, {"acts", "0\n"},
		{"flight ", "error 6\n"}, {"has 1", "error 6\n"}, {"ask", "error 6\n"}, {"ask 0", "error 6\n"}, {"ask x BEGIN", "error 6\n"}, {"ask 99999999999999999999 x", "error 6\n"}, {"ask -1 BEGIN", "error 2\n"}, {"ask 5 BEGIN", "error 2\n"}, {"ask 0 ", ""}, {"ask 0 BEGIN; COMMIT", "ok 0\nok 0\n"}, {"ask 0 SELEC", "error 6\n"}, {"ask 0 BEGIN SELEC", "error 6 at 6\n"},
		{"run ", "ok\n"}, {"run -- nothing", "ok\n"}, {"run SELEC", "error 6\n"}, {"run BEGIN; SELEC", "error 6 at 7\n"}, {"run CREATE TABLE t (a INTEGER, b TEXT, PRIMARY KEY (a)); INSERT INTO t (a) VALUES (1); BEGIN; BEGIN", "ok 0\nok 1\nok 0\nerror 9\n"},
		{"tick 9", "error 2\n"}, {"tick 99999999999999999999", "error 5\n"}, {"deliver 9", "error 4\n"}, {"spoil 1 2 300", "error 5\n"}, {"gather", "error 9\n"}, {"run COMMIT", "ok 0\n"}, {"gather", "ok\n"}, {"archive", "1 2 3\n"},
		{"ask 0 SELECT * FROM t", "ok 1\na, b\n1, NULL\n"}, {"ask 0 DELETE FROM t; SELECT * FROM t", "ok 1\nok 0\na, b\n"}, {"ask 0 SELECT a FROM t", "ok 1\na\n1\n"}, {"ask 1 SELECT * FROM t", "error 161\n"},
		{"backup", "ok\n"}, {"copy", "3 3 0\n"}, {"ask 3 SELECT * FROM t", "error 7\n"}, {"step 2", "ok\n"}, {"run INSERT INTO t (a, b) VALUES (2, 'x')", "ok 1\n"}, {"step 1", "ok\n"}, {"copy", "4 2 1\n"}, {"step 9", "ok\n"}, {"copy", "4 0 1 done\n"}, {"ask 3 SELECT b FROM t ORDER BY b", "ok 2\nb\nNULL\n'x'\n"},
		{"restore 2", "ok\n"}, {"ask 4 SELECT COUNT(*) AS n FROM t", "ok 1\nn\n1\n"}, {"restore 9", "error 4\n"}, {"restore -1", "error 4\n"}, {"ask 4 SELECT * FROM t", "error 161\n"},
		{"tick 0", "ok\n"}, {"deliver 2", "ok\n"}, {"deliver 3", "ok\n"}, {"has", "0 1\n"}, {"power 0 1", "ok\n"}, {"run DELETE FROM t", "error 32\n"}, {"ask 0 SELECT COUNT(*) FROM t", "ok 1\n-\n2\n"}, {"run SELECT * FROM t", "error 32\n"}, {"crash 0 ++", "ok\n"}, {"run SELECT a FROM t", "ok 2\na\n1\n2\n"}, {"copy", "none\n"}, {"acts", "25\n"},
	} {
		if s := c.Do(k[0]); s != k[1] {
			t.Errorf("%d %s: %q", i, k[0], s)
		}
	}
	if c.World() == nil || c.World().Acts() != 25 {
		t.Error("World")
	}
}

// random: an act that has a line.
func random(r *rand.Rand) api.Act {
	n := func() int { return []int{0, 1, 2, -3, r.Int()}[r.Intn(5)] }
	a := api.Act{Kind: 1 + r.Intn(14)}
	switch a.Kind {
	case api.ActRun:
		a.Text = strings.Repeat(" ;\x00\xff-", r.Intn(3))
	case api.ActTick, api.ActCheckpoint:
		a.Node = n()
	case api.ActSpoil:
		a.N, a.At, a.X = n(), n(), uint8(r.Intn(256))
	case api.ActArm:
		a.Node, a.N, a.X = n(), n(), uint8(r.Intn(2))
	case api.ActPower:
		a.Node, a.N = n(), n()
	case api.ActCrash:
		a.Node = n()
		for range r.Intn(4) {
			a.Keep = append(a.Keep, r.Intn(2) == 0)
		}
	case api.ActBackup, api.ActGather:
	default:
		a.N = n()
	}
	return a
}

func TestThereAndBack(t *testing.T) { // P32.5
	r := rand.New(rand.NewSource(32))
	for range 5000 {
		a := random(r)
		s, e := Line(a)
		if b, f := Read(s); e != api.OK || f != api.OK || !reflect.DeepEqual(a, b) {
			t.Fatalf("%v: %q %v", a, s, b)
		}
		c := []byte(s)
		c[r.Intn(len(c))] = " 0-+9x\n"[r.Intn(7)]
		if b, e := Read(string(c)); e == api.OK {
			if u, f := Line(b); u != string(c) || f != api.OK {
				t.Fatalf("%q: %v %q", c, b, u)
			}
		}
	}
}

func TestRun(t *testing.T) { // P32.4, P32.6
	r := rand.New(rand.NewSource(33))
	for range 30 {
		lines := []string{"run CREATE TABLE t (a INTEGER, PRIMARY KEY (a))"}
		for range 60 {
			n := func(k int) string { return strconv.Itoa(r.Intn(k)) }
			lines = append(lines, []string{"", "# x", "run INSERT INTO t (a) VALUES (" + n(9) + "); SELECT * FROM t", "run UPDATE t SET a = a + 1", "tick " + n(4), "deliver " + n(30), "drop " + n(30), "twice " + n(30), "spoil " + n(30) + " " + n(99) + " 3", "arm " + n(5) + " " + n(4) + " io", "power " + n(5) + " " + n(9), "crash " + n(5) + " +-+--+", "checkpoint " + n(3), "backup", "step " + n(3), "gather", "restore " + n(4), "flight", "has", "archive", "copy", "acts", "ask " + n(5) + " SELECT * FROM t", "nothing"}[r.Intn(24)])
		}
		one, two, three := New(), New(), New()
		all := one.Run(strings.Join(lines, "\n"))
		k := r.Intn(len(lines))
		if s := two.Run(strings.Join(lines[:k], "\n")) + two.Run(strings.Join(lines[k:], "\n")); s != all {
			t.Fatal("in parts")
		}
		s := ""
		for _, l := range lines {
			s += three.Do(l)
		}
		if s != all {
			t.Fatal("one by one")
		}
	}
	c := New()
	if s := c.Run("has\n\nacts\n"); s != "0 0\n0\n" || c.Run("") != "" {
		t.Errorf("%q", s)
	}
}

func TestAskChangesNothing(t *testing.T) { // P32.3
	c := New()
	c.Run("run CREATE TABLE t (a INTEGER, PRIMARY KEY (a))\ntick 0\ndeliver 1")
	ops := []int{}
	for n := range 5 {
		ops = append(ops, c.World().Disk(n).Ops())
		c.Do("ask " + strconv.Itoa(n) + " CREATE TABLE u (a TEXT, PRIMARY KEY (a)); INSERT INTO u (a) VALUES ('x')")
	}
	for n := range 5 {
		if c.World().Disk(n).Ops() != ops[n] || c.World().Acts() != 3 {
			t.Error(n)
		}
	}
	if s := c.Do("ask 1 SELECT * FROM u"); s != "error 161\n" {
		t.Error(s)
	}
	// What is loose is not kept: what is asked is what would be there behind a crash.
	c.Run("arm 0 1 io\nrun INSERT INTO t (a) VALUES (1)")
	if s := c.Do("ask 0 SELECT * FROM t"); s != "ok 0\na\n" {
		t.Error(s)
	}
}
