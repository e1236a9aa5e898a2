package net

import (
	"math/rand"
	"slices"
	"strings"
	"testing"

	"counterfoil/api"
)

func want(t testing.TB, what string, got, e api.Errno) {
	t.Helper()
	if got != e {
		t.Errorf("%s: %d, not %d", what, got, e)
	}
}

func TestExamples(t *testing.T) {
	n := New()
	if id, e := n.Send(0, 1, "ab"); id != 1 || e != api.OK {
		t.Error(id, e)
	}
	if id, e := n.Twice(1); id != 2 || e != api.OK {
		t.Error(id, e)
	}
	want(t, "Spoil", n.Spoil(2, 0, 1), api.OK)
	want(t, "Spoil", n.Spoil(2, 1, 1), api.ErrState)
	want(t, "Spoil", n.Spoil(1, 2, 1), api.ErrRange)
	if l, e := n.Deliver(2); l != (api.Letter{Id: 2, From: 0, To: 1, Bytes: "\x60b", Spoilt: true}) || e != api.OK {
		t.Error(l, e)
	}
	if l, e := n.Deliver(2); l != (api.Letter{}) || e != api.ErrNone {
		t.Error(l, e)
	}
	want(t, "Drop", n.Drop(1), api.OK)
	if n.Flight() != nil {
		t.Error(n.Flight())
	}
	_, e := n.Send(0, 4, "")
	want(t, "Send", e, api.ErrArg)
	want(t, "Spoil", n.Spoil(9, 0, 0), api.ErrNone)
}

func TestNil(t *testing.T) { // P25.1 to P25.3
	var n *Net
	_, e := n.Send(9, 9, "")
	want(t, "Send", e, api.ErrNil)
	_, e = n.Deliver(0)
	want(t, "Deliver", e, api.ErrNil)
	want(t, "Drop", n.Drop(0), api.ErrNil)
	_, e = n.Twice(0)
	want(t, "Twice", e, api.ErrNil)
	want(t, "Spoil", n.Spoil(0, 0, 0), api.ErrNil)
	if n.Flight() != nil {
		t.Error("Flight")
	}
}

func TestSend(t *testing.T) { // P25.1
	n := New()
	long := strings.Repeat("l", api.MaxLetter)
	for _, c := range []struct {
		from, to int
		s        string
		e        api.Errno
	}{{-1, 0, "", api.ErrArg}, {0, -1, long + "l", api.ErrArg}, {4, 0, "", api.ErrArg}, {0, 1 << 40, "", api.ErrArg}, {0, 1, long + "l", api.ErrLong}, {3, 3, long, api.OK}, {0, 0, "", api.OK}} {
		_, e := n.Send(c.from, c.to, c.s)
		want(t, "Send", e, c.e)
	}
	for i := 2; i < api.MaxFlight; i++ {
		if id, e := n.Send(1, 2, "x"); id != i+1 || e != api.OK {
			t.Fatal(id, e)
		}
	}
	id, e := n.Send(1, 2, "x")
	if id != 0 || e != api.ErrFull {
		t.Error(id, e)
	}
	_, e = n.Send(1, 2, long+"l")
	want(t, "ErrLong ahead of ErrFull", e, api.ErrLong)
	id, e = n.Twice(5)
	if id != 0 || e != api.ErrFull {
		t.Error(id, e)
	}
	_, e = n.Twice(99)
	want(t, "ErrNone ahead of ErrFull", e, api.ErrNone)
	n.Drop(64)
	if id, e := n.Send(1, 2, "x"); id != 65 || e != api.OK {
		t.Error("a number that no letter had:", id, e)
	}
}

func TestSpoil(t *testing.T) { // P25.3
	n := New()
	n.Send(1, 2, "abc")
	n.Send(1, 2, "")
	want(t, "place", n.Spoil(1, 3, 0), api.ErrRange)
	want(t, "place", n.Spoil(1, -1, 0), api.ErrRange)
	want(t, "place", n.Spoil(2, 0, 1), api.ErrRange)
	want(t, "nothing turned", n.Spoil(1, 0, 0), api.ErrArg)
	want(t, "Spoil", n.Spoil(1, 2, 255), api.OK)
	want(t, "once alone", n.Spoil(1, 9, 0), api.ErrState)
	id, _ := n.Twice(1)
	want(t, "its double is spoilt, too", n.Spoil(id, 0, 1), api.ErrState)
	if l, e := n.Deliver(id); l != (api.Letter{Id: 3, From: 1, To: 2, Bytes: "ab\x9c", Spoilt: true}) || e != api.OK {
		t.Error(l, e)
	}
}

func TestModel(t *testing.T) { // P25.4, P25.5
	r := rand.New(rand.NewSource(29))
	for range 100 {
		n := New()
		var model []api.Letter // on their way
		sent, arrived := 0, 0
		origin := map[int]string{}
		for range 200 {
			id := 1 + r.Intn(sent+2)
			i := slices.IndexFunc(model, func(l api.Letter) bool { return l.Id == id })
			e := api.OK
			if i < 0 {
				e = api.ErrNone
			}
			switch r.Intn(6) {
			case 0, 1:
				s := strings.Repeat("s", r.Intn(4))
				id, e := n.Send(r.Intn(4), r.Intn(4), s)
				if e == api.ErrFull && len(model) == api.MaxFlight {
					continue
				}
				sent++
				if id != sent || e != api.OK {
					t.Fatal(id, e)
				}
				l := n.Flight()[len(model)]
				origin[id] = s
				model = append(model, api.Letter{Id: id, From: l.From, To: l.To, Bytes: s})
			case 2:
				l, f := n.Deliver(id)
				want(t, "Deliver", f, e)
				if i >= 0 {
					if l != model[i] {
						t.Fatal(l, model[i])
					}
					turned := 0
					for k := range len(l.Bytes) {
						if l.Bytes[k] != origin[id][k] {
							turned++
						}
					}
					if l.Spoilt != (turned == 1) || turned > 1 || len(l.Bytes) != len(origin[id]) {
						t.Fatal("spoilt:", l)
					}
					model = slices.Delete(model, i, i+1)
					arrived++
				}
			case 3:
				want(t, "Drop", n.Drop(id), e)
				if i >= 0 {
					model = slices.Delete(model, i, i+1)
					arrived++
				}
			case 4:
				if len(model) == api.MaxFlight {
					continue
				}
				twin, f := n.Twice(id)
				want(t, "Twice", f, e)
				if i >= 0 {
					sent++
					l := model[i]
					l.Id = sent
					if twin != sent {
						t.Fatal(twin)
					}
					origin[sent] = origin[id]
					model = append(model, l)
				}
			default:
				if n.Spoil(id, 0, uint8(1+r.Intn(255))) == api.OK {
					for _, l := range n.Flight() {
						if l.Id == id {
							model[i] = l
						}
					}
				}
			}
			if !slices.Equal(n.Flight(), model) || sent != arrived+len(model) {
				t.Fatal(n.Flight(), model)
			}
		}
	}
}
