package engine

import (
	"math/rand"
	"slices"
	"strconv"
	"strings"
	"testing"

	"counterfoil/api"
	"counterfoil/files"
	"counterfoil/parse"
	"counterfoil/store"
	"counterfoil/value"
)

func opened(t testing.TB, d *files.Disk) *Engine {
	t.Helper()
	g, e := Open(d)
	if e != api.OK {
		t.Fatal("Open:", e)
	}
	return g
}

// fresh: the engine of a new disk, on which that text was run, and the disk.
func fresh(t testing.TB, text string) (*Engine, *files.Disk) {
	t.Helper()
	d := files.New()
	g := opened(t, d)
	for _, a := range g.Run(text) {
		if a.E != api.OK {
			t.Fatal(text, a)
		}
	}
	return g, d
}

const table = "CREATE TABLE t (a INTEGER, PRIMARY KEY (a)); INSERT INTO t (a) VALUES (1), (2)"

// one: an answer: its error and place, or N, names, and rows.
func one(a api.Answer) string {
	if a.E != api.OK {
		s := "E" + strconv.Itoa(int(a.E))
		if a.At != 0 {
			s += " at " + strconv.Itoa(a.At)
		}
		if a.N != 0 || a.Names != nil || a.Rows != nil {
			s += " and more"
		}
		return s
	}
	s := strconv.Itoa(a.N)
	if len(a.Names) > 0 {
		s += " " + strings.Join(a.Names, ",") + ":"
	}
	for _, r := range a.Rows {
		for _, v := range r {
			s += " " + value.Literal(v)
		}
	}
	return s
}

func told(l []api.Answer) string {
	var r []string
	for _, a := range l {
		r = append(r, one(a))
	}
	return strings.Join(r, "; ")
}

func TestRun(t *testing.T) { // P21.2, and the examples
	g, _ := fresh(t, "")
	for _, c := range [][2]string{
		{"CREATE TABLE t (a INTEGER, PRIMARY KEY (a)); INSERT INTO t (a) VALUES (1), (2)", "0; 2"},
		{"BEGIN; DELETE FROM t; SAVEPOINT s; INSERT INTO t (a) VALUES (3); ROLLBACK TO s; SELECT COUNT(*) FROM t; ROLLBACK", "0; 2; 0; 1; 0; 1 : 0; 0"},
		{"COMMIT; SELECT a FROM t WHERE a = 2; SELEC", "E6 at 37"},
		{"SELECT a FROM t", "2 a: 1 2"},
		{"RELEASE s; ROLLBACK TO s", "E9; E9"},
		{"BEGIN; SAVEPOINT s; RELEASE s; ROLLBACK TO s; COMMIT", "0; 0; 0; E4; 0"},
		{"", ""}, {"-- nothing", ""}, {"COMMIT", "E9"}, {"ROLLBACK", "E9"}, {"SAVEPOINT s", "E9"}, {"BEGIN; BEGIN", "0; E9"}, {"ROLLBACK; ROLLBACK", "0; E9"},
		{"INSERT INTO t (a) VALUES (3); INSERT INTO t (a) VALUES (3); INSERT INTO t (a) VALUES (4); SELECT x FROM t; SELECT a FROM t", "1; E171; 1; E163; 4 a: 1 2 3 4"},
		{"BEGIN; INSERT INTO t (a) VALUES (5), (1); INSERT INTO t (a) VALUES (6); COMMIT; SELECT a FROM t WHERE a > 4", "0; E171; 1; 0; 1 a: 6"},
		{"BEGIN; UPDATE t SET a = a + 10; SELECT MIN(a) FROM t; ROLLBACK; SELECT MIN(a) FROM t", "0; 5; 1 : 11; 0; 1 : 1"},
		{"BEGIN; CREATE TABLE u (b TEXT, PRIMARY KEY (b)); INSERT INTO u (b) VALUES ('x'); SELECT * FROM u; ROLLBACK; SELECT * FROM u", "0; 0; 1; 1 b: 'x'; 0; E161"},
		{"DELETE FROM t WHERE a < 3; UPDATE t SET a = a; SELECT * FROM t LIMIT 1", "2; 3; 1 a: 3"},
	} {
		if s := told(g.Run(c[0])); s != c[1] {
			t.Errorf("%s: %q", c[0], s)
		}
	}
	if a := g.Run(strings.Repeat(" ", 4097)); len(a) != 1 || a[0].E != api.ErrLong || a[0].At != 4096 {
		t.Error(a)
	}
}

func TestSavepoints(t *testing.T) { // P21.2: savepoints by their names
	g, _ := fresh(t, table)
	for _, c := range [][2]string{
		{"BEGIN; SAVEPOINT s; INSERT INTO t (a) VALUES (3); SAVEPOINT s; INSERT INTO t (a) VALUES (4); SAVEPOINT r; INSERT INTO t (a) VALUES (5)", "0; 0; 1; 0; 1; 0; 1"},
		{"ROLLBACK TO s; SELECT MAX(a) FROM t; ROLLBACK TO r", "0; 1 : 3; E4"}, // the newest one of a name
		{"INSERT INTO t (a) VALUES (7); ROLLBACK TO s; SELECT MAX(a) FROM t", "1; 0; 1 : 3"},
		{"RELEASE s; SELECT MAX(a) FROM t; ROLLBACK TO s; SELECT MAX(a) FROM t; RELEASE s; RELEASE s", "0; 1 : 3; 0; 1 : 2; 0; E4"},
		{"INSERT INTO t (a) VALUES (8); COMMIT; SELECT MAX(a) FROM t; BEGIN; ROLLBACK TO s; COMMIT", "1; 0; 1 : 8; 0; E4; 0"},
	} {
		if s := told(g.Run(c[0])); s != c[1] {
			t.Errorf("%s: %q", c[0], s)
		}
	}
	g.Run("BEGIN")
	for i := range 60 {
		if a := g.Run("SAVEPOINT s" + strconv.Itoa(i)); a[0].E != api.OK {
			t.Fatal(i, a)
		}
	}
	if s := told(g.Run("SAVEPOINT s; DELETE FROM t; RELEASE s59; SAVEPOINT s; SAVEPOINT s; SELECT * FROM t")); s != "E8; 3; 0; 0; E8; 0 a:" {
		t.Error(s)
	}
}

func TestDo(t *testing.T) { // P21.2: statements that were not read
	g, _ := fresh(t, table)
	for _, s := range []api.Stmt{{}, {Kind: 15}, {Kind: 255}} {
		if a := g.Do(s); one(a) != "E2" {
			t.Error(a)
		}
	}
	if a := g.Do(api.Stmt{Kind: api.StDrop, Table: "T"}); one(a) != "E2" || g.In() {
		t.Error(a)
	}
	if a := g.Do(api.Stmt{Kind: api.StDelete, Table: "t"}); one(a) != "2" {
		t.Error(a)
	}
}

func TestNil(t *testing.T) { // P21.2, P21.3
	var g *Engine
	if s := told(g.Run("BEGIN; SELECT * FROM t")); s != "E1; E1" {
		t.Error(s)
	}
	if s := told(g.Run("BEGIN; SELEC")); s != "E6 at 7" {
		t.Error(s)
	}
	if a := g.Do(api.Stmt{}); a.E != api.ErrNil {
		t.Error(a)
	}
	if n, e := g.Commits(); n != 0 || e != api.ErrNil || g.In() || g.Last() != nil || g.Checkpoint() != api.ErrNil || g.Pager() != nil {
		t.Error(n, e)
	}
}

func TestOpen(t *testing.T) { // P21.1
	if g, e := Open(nil); g != nil || e != api.ErrNil {
		t.Error(e)
	}
	d := files.New()
	d.Write(0, 0, strings.Repeat("x", 512))
	if g, e := Open(d); g != nil || e != api.ErrBytes {
		t.Error(e)
	}
	d.Write(0, 0, strings.Repeat("x", 64*9))
	if g, e := Open(d); g != nil || e != api.ErrBytes {
		t.Error(e)
	}
	g, d := fresh(t, table)
	g.Run("BEGIN; DELETE FROM t")
	g = opened(t, d)
	if s := told(g.Run("SELECT * FROM t")); s != "2 a: 1 2" || g.In() {
		t.Error(s)
	}
}

// changes: changes, as key: old to new.
func changes(l []api.Change) string {
	var r []string
	lit := func(row []api.Value) string {
		var s []string
		for _, v := range row {
			s = append(s, value.Literal(v))
		}
		return strings.Join(s, " ")
	}
	for _, c := range l {
		r = append(r, c.Table+" "+lit(c.Key)+": "+lit(c.Old)+" to "+lit(c.New))
	}
	return strings.Join(r, "; ")
}

func TestLooks(t *testing.T) { // P21.3
	g, d := fresh(t, "")
	if n, e := g.Commits(); n != 0 || e != api.OK || g.In() || g.Last() != nil || g.Pager() == nil {
		t.Error(n, e)
	}
	g.Run(table)
	if n, e := g.Commits(); n != 2 || e != api.OK || changes(g.Last()) != "t 1:  to 1; t 2:  to 2" {
		t.Error(n, e, changes(g.Last()))
	}
	g.Run("BEGIN; INSERT INTO t (a) VALUES (3); SAVEPOINT s; DELETE FROM t; ROLLBACK TO s; INSERT INTO t (a) VALUES (1); UPDATE t SET a = 5 WHERE a = 3")
	if !g.In() || changes(g.Last()) != "t 1:  to 1; t 2:  to 2" || g.Checkpoint() != api.ErrState {
		t.Error("in a transaction")
	}
	g.Run("ROLLBACK TO s; DELETE FROM t WHERE a = 1; COMMIT")
	last := g.Last()
	if n, e := g.Commits(); n != 3 || e != api.OK || g.In() || changes(last) != "t 3:  to 3; t 1: 1 to " {
		t.Error(n, e, changes(last))
	}
	g.Run("BEGIN; DELETE FROM t; ROLLBACK; DELETE FROM t WHERE x")
	if changes(g.Last()) != "t 3:  to 3; t 1: 1 to " {
		t.Error("what was not committed:", changes(g.Last()))
	}
	d.Arm(0, api.ErrIO)
	if s := told(g.Run("DELETE FROM t")); s != "E31" || changes(g.Last()) != "t 3:  to 3; t 1: 1 to " {
		t.Error(s, changes(g.Last()))
	}
	g.Run("CREATE INDEX i ON t (a)")
	if n, _ := g.Commits(); n != 4 || len(g.Last()) != 0 || changes(last) != "t 3:  to 3; t 1: 1 to " {
		t.Error(n, g.Last())
	}
	if g.Checkpoint() != api.OK || d.Size(api.MainFile) == 0 || g.Pager().Log().Mark() != 0 {
		t.Error("Checkpoint")
	}
}

func TestAborted(t *testing.T) { // P21.5
	for _, e := range []api.Errno{api.ErrSpace, api.ErrIO} {
		for k := range 5 {
			g, d := fresh(t, table)
			d.Arm(k, e)
			want := "E" + strconv.Itoa(int(e)) + "; 2 a: 1 2; 2; 0 a:"
			if k > 3 {
				want = "2; 0 a:; E" + strconv.Itoa(int(e)) + "; 0 a:"
			}
			if s := told(g.Run("DELETE FROM t; SELECT * FROM t; DELETE FROM t; SELECT * FROM t")); s != want {
				t.Error(k, s)
			}
			g, d = fresh(t, table)
			d.Arm(k, e)
			a := g.Run("BEGIN; DELETE FROM t; COMMIT; SELECT * FROM t")
			if s := told(a); k < 4 && s != "0; 2; E"+strconv.Itoa(int(e))+"; 2 a: 1 2" || g.In() {
				t.Error(k, s)
			}
		}
	}
}

func TestUnreadable(t *testing.T) { // a COMMIT for which the header can't be read ends the transaction, too
	g, d := fresh(t, table)
	g.Checkpoint()
	g.Run("BEGIN")
	d.Power(0)
	d.Sync(0)
	if s := told(g.Run("COMMIT; COMMIT; ROLLBACK")); s != "E32; E9; E9" || g.In() {
		t.Error(s)
	}
	d.Crash(nil)
	if s := told(g.Run("BEGIN; ROLLBACK; SELECT * FROM t")); s != "0; 0; 2 a: 1 2" {
		t.Error(s)
	}
}

// list is a database as plain lists: t (a INTEGER, b TEXT, key a), its rows rising.
type list struct {
	there bool
	rows  map[int64]string
}

func (l list) copied() list {
	m := map[int64]string{}
	for k, s := range l.rows {
		m[k] = s
	}
	return list{l.there, m}
}

// say: the rows, as an answer to SELECT a, b FROM t.
func (l list) say() string {
	if !l.there {
		return "E161"
	}
	var keys []int64
	for k := range l.rows {
		keys = append(keys, k)
	}
	slices.Sort(keys)
	s := strconv.Itoa(len(keys)) + " a,b:"
	for _, k := range keys {
		s += " " + strconv.FormatInt(k, 10) + " '" + l.rows[k] + "'"
	}
	return s
}

// act: a statement that changes something, and what it does to a list: its answer.
func act(r *rand.Rand, l list) (string, func(l *list) string) {
	n := int64(r.Intn(8))
	k := strconv.FormatInt(n, 10)
	s := strings.Repeat(string(rune('a'+r.Intn(3))), r.Intn(60))
	guard := func(do func(l *list) string) func(l *list) string {
		return func(l *list) string {
			if !l.there {
				return "E161"
			}
			return do(l)
		}
	}
	switch r.Intn(8) {
	case 0:
		return "CREATE TABLE t (a INTEGER, b TEXT, PRIMARY KEY (a))", func(l *list) string {
			if l.there {
				return "E160"
			}
			*l = list{true, map[int64]string{}}
			return "0"
		}
	case 1:
		if r.Intn(4) > 0 {
			return "UPDATE t SET b = b || 'z' WHERE a = " + k, guard(func(l *list) string {
				if s, ok := l.rows[n]; ok {
					l.rows[n] = s + "z"
					return "1"
				}
				return "0"
			})
		}
		return "DROP TABLE t", guard(func(l *list) string {
			*l = list{false, map[int64]string{}}
			return "0"
		})
	case 2:
		return "DELETE FROM t WHERE a > " + k, guard(func(l *list) string {
			c := 0
			for x := range l.rows {
				if x > n {
					delete(l.rows, x)
					c++
				}
			}
			return strconv.Itoa(c)
		})
	case 3:
		return "UPDATE t SET a = " + k + " - a", guard(func(l *list) string {
			m := map[int64]string{}
			for x, s := range l.rows {
				m[n-x] = s
			}
			l.rows = m
			return strconv.Itoa(len(m))
		})
	}
	return "INSERT INTO t (a, b) VALUES (" + k + ", '" + s + "'), (" + k + " + 3, '" + s + "')", guard(func(l *list) string {
		_, x := l.rows[n]
		_, y := l.rows[n+3]
		if x || y {
			return "E171"
		}
		l.rows[n], l.rows[n+3] = s, s
		return "2"
	})
}

const look = "SELECT a, b FROM t"

func TestAgainstLists(t *testing.T) { // P21.2, P21.4 to P21.6
	for seed := range int64(60) {
		r := rand.New(rand.NewSource(seed))
		g, d := fresh(t, "")
		now := list{rows: map[int64]string{}}
		committed := now.copied()
		var failed []list
		var saves []list
		in := false
		end := func(e string) { // a commit was answered that
			switch {
			case e == "0" || !strings.HasPrefix(e, "E"):
				committed, failed = now.copied(), nil
			default:
				failed = append(failed, now)
				now = committed.copied()
			}
			in, saves = false, nil
		}
		for range 60 {
			if r.Intn(5) == 0 {
				d.Arm(r.Intn(6), []api.Errno{api.ErrIO, api.ErrSpace}[r.Intn(2)])
			}
			var s, want string
			switch k := r.Intn(16); {
			case k == 0 && !in:
				s, want, in = "BEGIN", "0", true
			case k < 2 && in:
				a := told(g.Run("COMMIT"))
				if a != "0" && a != "E30" && a != "E31" {
					t.Fatal("COMMIT:", a)
				}
				end(a)
				continue
			case k == 2 && in:
				s, want, in, now, saves = "ROLLBACK", "0", false, committed.copied(), nil
			case k == 3 && in:
				s, want = "SAVEPOINT s", "0"
				saves = append(saves, now.copied())
			case k == 4 && in && len(saves) > 0:
				s, want, now = "ROLLBACK TO s", "0", saves[len(saves)-1].copied()
			case k == 5 && in && len(saves) > 0:
				s, want, saves = "RELEASE s", "0", saves[:len(saves)-1]
			case k == 6 && !in:
				g.Checkpoint()
				continue
			case k == 7:
				c := d.Copy()
				keep := make([]bool, c.Loose())
				for i := range keep {
					keep[i] = r.Intn(3) > 0
				}
				c.Crash(keep)
				h := opened(t, c)
				got := told(h.Run(look))
				ok := got == committed.say()
				for _, f := range failed {
					ok = ok || got == f.say()
				}
				if _, e := store.Check(h.Pager()); !ok || e != api.OK {
					t.Fatal("kept:", got, e)
				}
				continue
			default:
				text, do := act(r, now)
				before := now.copied()
				a := told(g.Run(text))
				if w := do(&now); a != w && (in || a != "E30" && a != "E31") {
					t.Fatal(text, ":", a, "not", w)
				}
				if !in && a[0] == 'E' && (a == "E30" || a == "E31") {
					after := now
					now = before
					failed = append(failed, after)
				} else if !in && a[0] != 'E' {
					committed, failed = now.copied(), nil
				}
			}
			if s != "" {
				if a := told(g.Run(s)); a != want {
					t.Fatal(s, ":", a)
				}
			}
			if a := told(g.Run(look)); a != now.say() || g.In() != in {
				t.Fatal(a, "not", now.say())
			}
		}
	}
}

func TestPower(t *testing.T) { // P21.6: the power goes at each operation, and any sectors are kept
	r := rand.New(rand.NewSource(24))
	texts := []string{"CREATE TABLE t (a INTEGER, b TEXT, PRIMARY KEY (a))", "INSERT INTO t (a, b) VALUES (1, 'x'), (2, 'y')", "UPDATE t SET b = 'z'", "BEGIN; DELETE FROM t WHERE a = 1; INSERT INTO t (a, b) VALUES (3, 'w'); COMMIT", "", "DELETE FROM t"}
	plain, _ := fresh(t, "")
	states := []string{told(plain.Run(look))} // behind each text
	for _, s := range texts {
		plain.Run(s)
		states = append(states, told(plain.Run(look)))
	}
	for k := range 160 {
		g, d := fresh(t, "")
		d.Power(k / 4)
		n := 0
		for ; n < len(texts) && d.On(); n++ {
			if texts[n] == "" {
				g.Checkpoint()
			} else {
				g.Run(texts[n])
			}
		}
		may := states[n-1 : n+1]
		for range 3 {
			keep := make([]bool, d.Loose())
			for i := range keep {
				keep[i] = r.Intn(2) == 0
			}
			d.Crash(keep)
			g = opened(t, d)
			got := told(g.Run(look))
			if !slices.Contains(may, got) {
				t.Fatal(k, got, may)
			}
			may = []string{got}
			d.Power(r.Intn(4)) // at recovery, too
			g.Checkpoint()
		}
	}
}

func TestRunIsDo(t *testing.T) {
	g, _ := fresh(t, table)
	h, _ := fresh(t, table)
	text := "BEGIN; UPDATE t SET a = a + 1; SELECT * FROM t; SAVEPOINT s; ROLLBACK TO s; COMMIT; SELECT * FROM t WHERE a = 3"
	l, _ := parse.Script(text)
	var answers []api.Answer
	for _, s := range l {
		answers = append(answers, h.Do(s))
	}
	if told(g.Run(text)) != told(answers) {
		t.Error(told(answers))
	}
}
