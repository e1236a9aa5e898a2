package replica

import (
	"math/rand"
	"slices"
	"strings"
	"testing"

	"counterfoil/api"
	"counterfoil/files"
	"counterfoil/net"
	"counterfoil/pager"
	"counterfoil/ship"
	"counterfoil/space"
	"counterfoil/unit"
)

func want(t testing.TB, what string, got, e api.Errno) {
	t.Helper()
	if got != e {
		t.Errorf("%s: %d, not %d", what, got, e)
	}
}

func opened(t testing.TB, d *files.Disk) *pager.Pager {
	t.Helper()
	p, e := pager.Open(d)
	if e != api.OK {
		t.Fatal("Open:", e)
	}
	return p
}

// commit: a transaction in which there are so many pages, of which one has that letter.
func commit(t testing.TB, p *pager.Pager, pages, n int, c string) api.Errno {
	t.Helper()
	if e := space.Begin(p); e != api.OK {
		return e
	}
	p.Resize(pages)
	p.Write(n, strings.Repeat(c, api.PageSize))
	return space.Commit(p)
}

// told: all pages.
func told(t testing.TB, p *pager.Pager) (l []string) {
	t.Helper()
	for n := 1; n <= p.Pages(); n++ {
		s, e := p.Read(n)
		if e != api.OK {
			t.Fatal(e)
		}
		l = append(l, s)
	}
	return l
}

// put: the bytes of a ship.
func put(t testing.TB, m api.Ship) string {
	t.Helper()
	s, e := ship.Put(m)
	if e != api.OK {
		t.Fatal(e)
	}
	return s
}

func ack(t testing.TB, epoch, k uint64) string {
	return put(t, api.Ship{Kind: api.ShipAck, Epoch: epoch, K: k})
}

func TestNil(t *testing.T) { // P28.1 to P28.4
	var l *Leader
	var r *Trailer
	if l.Has(1) != 0 || l.Tick(nil) != nil || l.Get(0, "") != api.ErrNil || r.Epoch() != 0 || r.Tick() != nil {
		t.Error("nil")
	}
	if p, e := r.Get(""); p != nil || e != api.ErrNil {
		t.Error(p, e)
	}
	if p := Lead(1).Tick(nil); p != nil {
		t.Error(p)
	}
	if p := Trail(nil).Tick(); p != nil {
		t.Error(p)
	}
	if p, e := Trail(nil).Get(put(t, api.Ship{Kind: api.ShipUnit, K: 1, Pages: 1})); p != nil || e != api.ErrNil {
		t.Error(p, e)
	}
}

func TestLeader(t *testing.T) { // P28.1, P28.2
	l := Lead(3)
	for _, n := range []int{-1, 0, 1, 2, 3} {
		if l.Has(n) != 0 {
			t.Error(n)
		}
	}
	u := put(t, api.Ship{Kind: api.ShipUnit, K: 9, Pages: 1})
	good := ack(t, 3, 5)
	for i, c := range []struct {
		from int
		s    string
		e    api.Errno
		has  [3]uint64
	}{
		{0, "", api.ErrArg, [3]uint64{}}, {3, good, api.ErrArg, [3]uint64{}}, {-1, good, api.ErrArg, [3]uint64{}}, {1, "", api.ErrBytes, [3]uint64{}}, {1, strings.Repeat("\x01", 56), api.ErrSum, [3]uint64{}}, {1, u, api.ErrArg, [3]uint64{}},
		{1, good, api.OK, [3]uint64{0, 5}}, {1, ack(t, 3, 4), api.OK, [3]uint64{0, 5}}, {1, ack(t, 4, 9), api.ErrState, [3]uint64{0, 5}}, {2, ack(t, 0, 7), api.OK, [3]uint64{0, 5, 7}}, {1, ack(t, 3, 6), api.OK, [3]uint64{0, 6, 7}},
	} {
		if e := l.Get(c.from, c.s); e != c.e || l.Has(0) != 0 || l.Has(1) != c.has[1] || l.Has(2) != c.has[2] {
			t.Error(i, e, l.Has(1), l.Has(2))
		}
	}
}

func TestTick(t *testing.T) { // P28.2
	p := opened(t, files.New())
	l := Lead(3)
	if l.Tick(p) != nil {
		t.Error("no commits")
	}
	commit(t, p, 2, 2, "a")
	commit(t, p, 3, 3, "b")
	l.Get(2, ack(t, 1, 1))
	letters := l.Tick(p)
	one, _ := unit.Next(p, 3, 0)
	two, _ := unit.Next(p, 3, 1)
	if !slices.Equal(letters, []api.Post{{To: 1, Bytes: put(t, one)}, {To: 2, Bytes: put(t, two)}}) {
		t.Error(len(letters))
	}
	l.Get(1, ack(t, 1, 2))
	if letters = l.Tick(p); !slices.Equal(letters, []api.Post{{To: 2, Bytes: put(t, two)}}) {
		t.Error(len(letters))
	}
	p.Begin()
	if l.Tick(p) != nil {
		t.Error("in a transaction")
	}
}

func TestTrailer(t *testing.T) { // P28.3, P28.4
	p, q := opened(t, files.New()), opened(t, files.New())
	r := Trail(q)
	if l := r.Tick(); !slices.Equal(l, []api.Post{{To: 0, Bytes: ack(t, 0, 0)}}) || r.Epoch() != 0 {
		t.Error(l)
	}
	commit(t, p, 2, 2, "a")
	commit(t, p, 3, 3, "b")
	one, _ := unit.Next(p, 3, 0)
	two, _ := unit.Next(p, 3, 1)
	old := two
	old.Epoch = 2
	for i, c := range []struct {
		s        string
		e        api.Errno
		epoch, k uint64
		ack      bool
	}{
		{"", api.ErrBytes, 0, 0, false}, {put(t, one) + "12345678", api.ErrSum, 0, 0, false}, {ack(t, 9, 9), api.ErrArg, 0, 0, false}, {put(t, two), api.ErrRange, 3, 0, true}, {put(t, old), api.ErrState, 3, 0, false},
		{put(t, one), api.OK, 3, 1, true}, {put(t, one), api.ErrNone, 3, 1, true}, {put(t, old), api.ErrState, 3, 1, false}, {put(t, two), api.OK, 3, 2, true},
	} {
		l, e := r.Get(c.s)
		var want []api.Post
		if c.ack {
			want = []api.Post{{To: 0, Bytes: ack(t, c.epoch, c.k)}}
		}
		if k, _ := unit.Have(q); !slices.Equal(l, want) || e != c.e || r.Epoch() != c.epoch || k != c.k {
			t.Error(i, e, r.Epoch(), k, len(l))
		}
	}
	q.Begin()
	if l, e := r.Get(put(t, two)); l != nil || e != api.ErrState {
		t.Error("in a transaction there is no ack:", e)
	}
}

// nodes are one that leads, and two that trail, with their net; what the first one's pages were behind each commit.
type nodes struct {
	disks  [3]*files.Disk
	pagers [3]*pager.Pager
	leader *Leader
	trail  [3]*Trailer
	net    *net.Net
	states [][]string
	epoch  uint64
}

func (n *nodes) start(t *testing.T, i int) {
	n.pagers[i] = opened(t, n.disks[i])
	if i == 0 {
		n.epoch++
		n.leader = Lead(n.epoch)
		return
	}
	n.trail[i] = Trail(n.pagers[i])
}

func (n *nodes) send(from int, l []api.Post) {
	for _, x := range l {
		n.net.Send(from, x.To, x.Bytes)
	}
}

func (n *nodes) tick(i int) {
	if i == 0 {
		n.send(0, n.leader.Tick(n.pagers[0]))
	} else {
		n.send(i, n.trail[i].Tick())
	}
}

func (n *nodes) deliver(id int) {
	l, e := n.net.Deliver(id)
	if e != api.OK {
		return
	}
	if l.To == 0 {
		n.leader.Get(l.From, l.Bytes)
		return
	}
	p, _ := n.trail[l.To].Get(l.Bytes)
	n.send(l.To, p)
}

// like: each trailing file is what the leading one was behind the commit that it has; how many that are.
func (n *nodes) like(t *testing.T, i int) uint64 {
	t.Helper()
	k, e := unit.Have(n.pagers[i])
	if e != api.OK || !slices.Equal(told(t, n.pagers[i]), n.states[k]) {
		t.Fatal("not like it:", i, k, e)
	}
	return k
}

func TestFollowed(t *testing.T) { // P28.5, P28.6
	for seed := range int64(50) {
		r := rand.New(rand.NewSource(seed))
		n := &nodes{net: net.New(), states: [][]string{nil}}
		for i := range n.disks {
			n.disks[i] = files.New()
			n.start(t, i)
		}
		have := [3]uint64{}
		for range 300 {
			flight := n.net.Flight()
			id := 0
			if len(flight) > 0 {
				id = flight[r.Intn(len(flight))].Id
			}
			switch r.Intn(12) {
			case 0, 1:
				pages := 2 + r.Intn(3)
				if commit(t, n.pagers[0], pages, 2, string(rune('a'+r.Intn(26)))) == api.OK {
					n.states = append(n.states, told(t, n.pagers[0]))
				}
			case 2, 3:
				n.tick(r.Intn(3))
			case 4, 5, 6:
				n.deliver(id)
			case 7:
				n.net.Drop(id)
			case 8:
				n.net.Twice(id)
			case 9:
				if id > 0 && n.net.Spoil(id, r.Intn(56), uint8(1+r.Intn(255))) == api.OK {
					before := [4]uint64{n.leader.Has(1), n.leader.Has(2), n.trail[1].Epoch(), n.trail[2].Epoch()}
					n.deliver(id)
					if before != [4]uint64{n.leader.Has(1), n.leader.Has(2), n.trail[1].Epoch(), n.trail[2].Epoch()} {
						t.Fatal("a letter that is spoilt")
					}
				}
			case 10:
				n.pagers[r.Intn(3)].Checkpoint()
			default:
				i := r.Intn(3) // what is synced is kept: a crash forgets what the nodes knew
				n.disks[i].Crash(nil)
				n.start(t, i)
			}
			for i := 1; i < 3; i++ {
				k := n.like(t, i)
				if k < have[i] {
					t.Fatal("fewer commits")
				}
				have[i] = k
			}
		}
		for rounds := 0; ; rounds++ { // in calm
			for i := range 3 {
				n.tick(i)
			}
			for l := n.net.Flight(); len(l) > 0; l = n.net.Flight() {
				n.deliver(l[r.Intn(len(l))].Id)
			}
			most := uint64(len(n.states) - 1)
			if n.like(t, 1) == most && n.like(t, 2) == most {
				break
			}
			if rounds > 2*len(n.states)+2 {
				t.Fatal("it does not come to be the newest one")
			}
		}
	}
}
