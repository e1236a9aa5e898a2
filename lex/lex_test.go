package lex

import (
	"math/rand"
	"slices"
	"strings"
	"testing"

	"counterfoil/api"
)

func word(s string, at int) api.Token { return api.Token{Kind: api.TokWord, Text: s, At: at} }
func name(s string, at int) api.Token { return api.Token{Kind: api.TokName, Text: s, At: at} }
func num(n uint64, at int) api.Token  { return api.Token{Kind: api.TokInt, N: n, At: at} }
func text(s string, at int) api.Token { return api.Token{Kind: api.TokText, Text: s, At: at} }
func blob(s string, at int) api.Token { return api.Token{Kind: api.TokBlob, Text: s, At: at} }
func sign(s string, at int) api.Token { return api.Token{Kind: api.TokSign, Text: s, At: at} }

func TestTokens(t *testing.T) { // P13.1
	for _, c := range []struct {
		s string
		l []api.Token
	}{
		{"", nil},
		{" \t\n\r--all of it", nil},
		{"-- a\n-- b\n c--", []api.Token{name("c", 11)}},
		{"SELECT a1,2", []api.Token{word("SELECT", 0), name("a1", 7), sign(",", 9), num(2, 10)}},
		{"'it''s'", []api.Token{text("it's", 0)}},
		{"''", []api.Token{text("", 0)}},
		{"''''", []api.Token{text("'", 0)}},
		{"'a' 'b'", []api.Token{text("a", 0), text("b", 4)}},
		{"'--\n\x00\xff'", []api.Token{text("--\n\x00\xff", 0)}},
		{"x'0f'", []api.Token{blob("\x0f", 0)}},
		{"x 'a'", []api.Token{name("x", 0), text("a", 2)}},
		{"xx'a'", []api.Token{name("xx", 0), text("a", 2)}},
		{"a--b", []api.Token{name("a", 0)}},
		{"a-b", []api.Token{name("a", 0), sign("-", 1), name("b", 2)}},
		{"- -1", []api.Token{sign("-", 0), sign("-", 2), num(1, 3)}},
		{"<><=>=<>>==||", []api.Token{sign("<>", 0), sign("<=", 2), sign(">=", 4), sign("<>", 6), sign(">=", 8), sign("=", 10), sign("||", 11)}},
		{"< >(),.*+-/%=;", []api.Token{sign("<", 0), sign(">", 2), sign("(", 3), sign(")", 4), sign(",", 5), sign(".", 6), sign("*", 7), sign("+", 8), sign("-", 9), sign("/", 10), sign("%", 11), sign("=", 12), sign(";", 13)}},
		{"0", []api.Token{num(0, 0)}},
		{"0.0", []api.Token{num(0, 0), sign(".", 1), num(0, 2)}},
		{"9223372036854775808", []api.Token{num(1<<63, 0)}},
		{"1'a'", []api.Token{num(1, 0), text("a", 1)}},
		{"'a'(", []api.Token{text("a", 0), sign("(", 3)}},
		{"a_9_", []api.Token{name("a_9_", 0)}},
		{strings.Repeat("a", 32), []api.Token{name(strings.Repeat("a", 32), 0)}},
		{"'" + strings.Repeat("''", 1000) + "'", []api.Token{text(strings.Repeat("'", 1000), 0)}},
		{"x'" + strings.Repeat("ab", 1000) + "'", []api.Token{blob(strings.Repeat("\xab", 1000), 0)}},
		{strings.Repeat(" ", 4096), nil},
	} {
		l, spot := Tokens(c.s)
		if !slices.Equal(l, c.l) || spot != (api.Spot{}) {
			t.Errorf("%.40q: %v %v", c.s, l, spot)
		}
	}
}

func TestTokensWrong(t *testing.T) { // P13.1
	a, aa := strings.Repeat("a", 33), strings.Repeat("a", 1001)
	for _, c := range []struct {
		s  string
		e  api.Errno
		at int
	}{
		{"SELEC", api.ErrText, 0}, {" SELECTa", api.ErrText, 1}, {"SELECT_", api.ErrText, 0}, {"SELECT1", api.ErrText, 0}, {"Select", api.ErrText, 0},
		{"aB", api.ErrText, 1}, {"12a", api.ErrText, 2}, {"01", api.ErrText, 1}, {"00", api.ErrText, 1}, {"0a", api.ErrText, 1}, {"1_", api.ErrText, 1}, {"1A", api.ErrText, 1},
		{"'a", api.ErrText, 2}, {"'", api.ErrText, 1}, {"'a''", api.ErrText, 4}, {"x'0", api.ErrText, 3}, {"x'", api.ErrText, 2}, {"x'0'", api.ErrText, 3}, {"x'000'", api.ErrText, 5},
		{"x'0F'", api.ErrText, 3}, {"x'g0'", api.ErrText, 2}, {"x'0 0'", api.ErrText, 3}, {"x'\x00\x00'", api.ErrText, 2},
		{"'a'b", api.ErrText, 3}, {"'a'9", api.ErrText, 3}, {"'a'_", api.ErrText, 3}, {"x'00'0", api.ErrText, 5}, {"x'00'A", api.ErrText, 5},
		{"!", api.ErrText, 0}, {"_", api.ErrText, 0}, {"a |", api.ErrText, 2}, {"\"a\"", api.ErrText, 0}, {"\x00", api.ErrText, 0}, {"\x0b", api.ErrText, 0}, {"\xc3\xa4", api.ErrText, 0}, {"a\xc3\xa4", api.ErrText, 1},
		{"9223372036854775809", api.ErrRange, 0}, {" 99999999999999999999999", api.ErrRange, 1}, {"9223372036854775809a", api.ErrRange, 0}, {"09223372036854775809", api.ErrText, 1},
		{a, api.ErrLong, 0}, {"(" + a, api.ErrLong, 1}, {a + "B", api.ErrText, 33}, {"a" + a + " !", api.ErrLong, 0},
		{"'" + aa + "'", api.ErrLong, 0}, {"'" + aa + "'b", api.ErrLong, 0}, {"'" + aa, api.ErrText, 1002}, {"x'" + strings.Repeat("00", 1001) + "'", api.ErrLong, 0},
		{"x'" + strings.Repeat("00", 1001) + "0'", api.ErrText, 2005}, {"x'" + strings.Repeat("00", 1001) + "'a", api.ErrLong, 0},
		{strings.Repeat(" ", 4097), api.ErrLong, 4096}, {"!" + strings.Repeat(" ", 5000), api.ErrLong, 4096},
		{"a ! 01", api.ErrText, 2}, {"x''x2", api.ErrText, 3},
	} {
		l, spot := Tokens(c.s)
		if l != nil || spot != (api.Spot{Err: c.e, At: c.at}) {
			t.Errorf("%.40q: %v %v", c.s, l, spot)
		}
	}
}

func TestWrite(t *testing.T) { // P13.2
	if s, e := Write([]api.Token{name("a", 7), sign("<=", -1), text("'", 0), num(1<<63, 0), blob("\x00\xaf", 1), word("AS", 1<<60)}); s != "a <= '''' 9223372036854775808 x'00af' AS" || e != api.OK {
		t.Error(s, e)
	}
	if s, e := Write(nil); s != "" || e != api.OK {
		t.Error(s, e)
	}
	for _, x := range []api.Token{name(strings.Repeat("a", 32), 0), text(strings.Repeat("a", 1000), 0), blob(strings.Repeat("a", 1000), 0), num(0, 0)} {
		if s, e := Write([]api.Token{x}); s == "" || e != api.OK {
			t.Error(x.Kind, e)
		}
	}
	good := name("a", 0)
	for _, x := range []api.Token{
		{}, {Kind: 7}, {Kind: 255, Text: "a"},
		word("", 0), word("SELEC", 0), word("select", 0), {Kind: api.TokWord, Text: "AS", N: 1},
		name("", 0), name("A", 0), name("aB", 0), name("1a", 0), name("_a", 0), name("a b", 0), name("a.b", 0), name(strings.Repeat("a", 33), 0), {Kind: api.TokName, Text: "a", N: 1},
		num(1<<63+1, 0), {Kind: api.TokInt, Text: "1", N: 1},
		text(strings.Repeat("a", 1001), 0), {Kind: api.TokText, N: 1}, blob(strings.Repeat("a", 1001), 0), {Kind: api.TokBlob, N: 1},
		sign("", 0), sign("!", 0), sign("( )", 0), sign("<>=", 0), sign("--", 0), sign("|", 0), {Kind: api.TokSign, Text: "(", N: 1},
	} {
		if s, e := Write([]api.Token{good, x, good}); s != "" || e != api.ErrArg {
			t.Error(x, s, e)
		}
	}
}

func TestWords(t *testing.T) { // P13.3
	l := Words()
	if len(l) != 43 || !slices.IsSorted(l) || len(slices.Compact(slices.Clone(l))) != 43 {
		t.Error(l)
	}
	for _, w := range l {
		if got, spot := Tokens(w); len(got) != 1 || got[0] != word(w, 0) || spot.Err != api.OK {
			t.Error(w, got, spot)
		}
	}
	l[0] = "x"
	if Words()[0] != "AND" {
		t.Error("a list of one's own")
	}
}

// random: tokens, any ones.
func random(r *rand.Rand) []api.Token {
	l := make([]api.Token, r.Intn(12))
	for i := range l {
		s := make([]byte, r.Intn(5))
		for k := range s {
			s[k] = []byte("'a-\x00\n\xffx0")[r.Intn(8)]
		}
		switch r.Intn(6) {
		case 0:
			l[i] = word(words[r.Intn(len(words))], 0)
		case 1:
			l[i] = name([]string{"a", "x", "z_9", "select"}[r.Intn(4)], 0)
		case 2:
			l[i] = num(r.Uint64()>>(1+r.Intn(63)), 0)
		case 3:
			l[i] = text(string(s), 0)
		case 4:
			l[i] = blob(string(s), 0)
		default:
			l[i] = sign(signs[r.Intn(len(signs))], 0)
		}
	}
	return l
}

// placed: the tokens, all at 0.
func placed(l []api.Token) []api.Token {
	l = slices.Clone(l)
	for i := range l {
		l[i].At = 0
	}
	return l
}

func TestThereAndBack(t *testing.T) { // P13.4
	r := rand.New(rand.NewSource(16))
	for range 20000 {
		l := random(r)
		s, e := Write(l)
		got, spot := Tokens(s)
		if e != api.OK || spot.Err != api.OK || !slices.Equal(placed(got), l) {
			t.Fatalf("%q %v %v", s, spot, got)
		}
		b := []byte(s)
		for i := range b {
			if r.Intn(20) == 0 {
				b[i] = " -'aX0x("[r.Intn(8)]
			}
		}
		if got, spot = Tokens(string(b)); spot.Err == api.OK {
			s, e = Write(got)
			again, spot := Tokens(s)
			if e != api.OK || spot.Err != api.OK || !slices.Equal(placed(again), placed(got)) {
				t.Fatalf("%q %q", b, s)
			}
		}
	}
}

func TestBlanks(t *testing.T) { // P13.5
	r := rand.New(rand.NewSource(17))
	for range 5000 {
		l := random(r)
		var b strings.Builder
		var at []int
		for _, x := range l {
			for range 1 + r.Intn(3) {
				b.WriteString([]string{" ", "\t", "\n", "\r", " --\n", "\n-- it's\n"}[r.Intn(6)])
			}
			at = append(at, b.Len())
			s, _ := Write([]api.Token{x})
			b.WriteString(s)
		}
		b.WriteString([]string{"", " ", " --", "\n--x\n"}[r.Intn(4)])
		got, spot := Tokens(b.String())
		if spot.Err != api.OK || !slices.Equal(placed(got), l) {
			t.Fatalf("%q %v", b.String(), spot)
		}
		for i := range got {
			if got[i].At != at[i] {
				t.Fatalf("%q %v", b.String(), got)
			}
		}
	}
}
