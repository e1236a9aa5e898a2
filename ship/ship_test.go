package ship

import (
	"math/rand"
	"strings"
	"testing"

	"counterfoil/api"
	"counterfoil/number"
	"counterfoil/sum"
)

func image(page int, c string) api.Image {
	return api.Image{Page: page, Data: strings.Repeat(c, api.PageSize)}
}

func unit(pages int, images ...api.Image) api.Ship {
	return api.Ship{Kind: api.ShipUnit, K: 1, Pages: pages, Images: images}
}

func full(pages int, images ...api.Image) api.Ship {
	m := unit(pages, images...)
	m.Full = true
	return m
}

func TestPut(t *testing.T) { // P26.1
	for i, m := range []api.Ship{
		{}, {Kind: 3}, unit(0), unit(257), unit(-1), {Kind: api.ShipUnit, Pages: 1}, unit(1, image(0, "a")), unit(1, image(2, "a")), unit(2, image(2, "a"), image(1, "a")), unit(2, image(1, "a"), image(1, "a")),
		unit(1, api.Image{Page: 1, Data: "a"}), unit(1, api.Image{Page: 1}), full(1), full(2, image(1, "a")), full(2, image(2, "a")),
		{Kind: api.ShipAck, Pages: 1}, {Kind: api.ShipAck, Full: true}, {Kind: api.ShipAck, Images: []api.Image{image(1, "a")}},
	} {
		if s, e := Put(m); s != "" || e != api.ErrArg {
			t.Error(i, e)
		}
	}
	if s, e := Put(api.Ship{Kind: api.ShipAck, K: 3}); len(s) != 56 || e != api.OK {
		t.Error(len(s), e)
	}
	m := unit(9, image(1, "a"), image(7, "b"))
	m.Epoch, m.K = 1<<40, 1<<63+5
	s, e := Put(m)
	rest := ""
	for _, n := range []uint64{1, 1 << 40, 1<<63 + 5, 0, 9, 2, 1} {
		rest += number.Eight(n)
	}
	rest += m.Images[0].Data + number.Eight(7) + m.Images[1].Data
	if s != sum.Text(sum.Of(rest))+rest || len(s) != 1096 || e != api.OK {
		t.Error(len(s), e)
	}
	for _, m := range []api.Ship{unit(1), unit(256, image(256, "a")), full(2, image(1, "a"), image(2, "b")), {Kind: api.ShipAck, Epoch: 1 << 63}} {
		s, e := Put(m)
		if got, f := Take(s); !Same(got, m) || e != api.OK || f != api.OK {
			t.Error(m.Kind, e, f)
		}
	}
}

func TestSame(t *testing.T) { // P26.1
	m := full(1, image(1, "a"))
	if !Same(m, full(1, image(1, "a"))) || !Same(unit(1), unit(1, []api.Image{}...)) {
		t.Error("the same")
	}
	for i, f := range []func(m *api.Ship){
		func(m *api.Ship) { m.Kind = 2 }, func(m *api.Ship) { m.Epoch = 2 }, func(m *api.Ship) { m.K = 2 }, func(m *api.Ship) { m.Full = false }, func(m *api.Ship) { m.Pages = 2 }, func(m *api.Ship) { m.Images = nil }, func(m *api.Ship) { m.Images = []api.Image{image(2, "a")} }, func(m *api.Ship) { m.Images = []api.Image{image(1, "b")} },
	} {
		n := full(1, image(1, "a"))
		if f(&n); Same(m, n) {
			t.Error(i)
		}
	}
}

// summed: these numbers, and more, behind their sum.
func summed(more string, numbers ...uint64) string {
	s := ""
	for _, n := range numbers {
		s += number.Eight(n)
	}
	s += more
	return sum.Text(sum.Of(s)) + s
}

func TestTake(t *testing.T) { // P26.2
	page := strings.Repeat("p", api.PageSize)
	one := number.Eight(1) + page
	for i, c := range []struct {
		s string
		e api.Errno
	}{
		{"", api.ErrBytes}, {strings.Repeat("\x01", 55), api.ErrBytes}, {strings.Repeat("\x01", 57), api.ErrBytes}, {strings.Repeat("\x01", 48), api.ErrBytes}, {strings.Repeat("\x00", 56), api.ErrBytes}, {strings.Repeat("\x01", 56), api.ErrSum},
		{"\x01" + summed("", 2, 0, 0, 0, 0, 0)[1:], api.ErrSum}, {summed("", 0, 0, 1, 0, 1, 0), api.ErrBytes}, {summed("", 3, 0, 1, 0, 0, 0), api.ErrBytes}, {summed("", 258, 0, 1, 0, 0, 0), api.ErrBytes}, {summed("", 1<<63+2, 0, 1, 0, 0, 0), api.ErrBytes},
		{summed("", 2, 0, 1, 1, 0, 0), api.ErrBytes}, {summed("", 2, 0, 1, 2, 0, 0), api.ErrBytes}, {summed("", 2, 0, 1, 0, 1, 0), api.ErrBytes}, {summed("", 2, 0, 1, 0, 1<<32, 0), api.ErrBytes}, {summed("", 2, 0, 1, 0, 0, 1), api.ErrBytes}, {summed(one, 2, 0, 1, 0, 0, 1), api.ErrBytes}, {summed("12345678", 2, 0, 1, 0, 0, 0), api.ErrBytes},
		{summed("", 1, 0, 0, 0, 1, 0), api.ErrBytes}, {summed("", 1, 0, 1, 0, 0, 0), api.ErrBytes}, {summed("", 1, 0, 1, 0, 257, 0), api.ErrBytes}, {summed("", 1, 0, 1, 0, 1, 1), api.ErrBytes}, {summed("", 1, 0, 1, 0, 1, 1<<63), api.ErrBytes}, {summed(one, 1, 0, 1, 0, 1, 0), api.ErrBytes}, {summed(one[:512], 1, 0, 1, 0, 1, 1), api.ErrBytes},
		{summed(number.Eight(2)+page, 1, 0, 1, 0, 1, 1), api.ErrBytes}, {summed(number.Eight(0)+page, 1, 0, 1, 0, 1, 1), api.ErrBytes}, {summed(number.Eight(1<<63+1)+page, 1, 0, 1, 0, 1, 1), api.ErrBytes}, {summed(one+one, 1, 0, 1, 0, 2, 2), api.ErrBytes}, {summed(one, 1, 0, 1, 1, 2, 1), api.ErrBytes},
		{summed(one, 1, 5, 6, 1, 1, 1), api.OK}, {summed("", 2, 5, 6, 0, 0, 0), api.OK}, {summed("", 1, 5, 6, 0, 7, 0), api.OK},
	} {
		m, e := Take(c.s)
		if e != c.e || e != api.OK && !Same(m, api.Ship{}) || e == api.OK && (m.Epoch != 5 || m.K != 6) {
			t.Error(i, m.Kind, e)
		}
	}
}

func TestThereAndBack(t *testing.T) { // P26.3, P26.4
	r := rand.New(rand.NewSource(30))
	for range 300 {
		m := api.Ship{Kind: api.ShipAck, Epoch: r.Uint64(), K: r.Uint64()}
		if r.Intn(4) > 0 {
			m.Kind, m.Pages, m.Full = api.ShipUnit, 1+r.Intn(5), r.Intn(2) == 0
			for n := 1; n <= m.Pages; n++ {
				if m.Full || r.Intn(2) == 0 {
					m.Images = append(m.Images, image(n, string(rune('a'+r.Intn(26)))))
				}
			}
		}
		s, e := Put(m)
		if got, f := Take(s); !Same(got, m) || e != api.OK || f != api.OK {
			t.Fatal(e, f)
		}
		for range 40 {
			b := []byte(s)
			at := r.Intn(len(b)/8) * 8
			for range 1 + r.Intn(2)*7 {
				b[at+r.Intn(8)] ^= byte(1 + r.Intn(255))
			}
			if string(b) == s {
				continue
			}
			if got, e := Take(string(b)); e == api.OK || !Same(got, api.Ship{}) {
				t.Fatal("spoilt at", at)
			}
		}
	}
}
