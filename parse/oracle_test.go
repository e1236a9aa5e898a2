package parse

import (
	"math/rand"
	"strings"
	"testing"

	"counterfoil/api"
	"counterfoil/lex"
)

// grammar is the chapter's, as rules: a name in capitals behind a $ is a rule, # a name, ! a value that is no number, 0 a number, all else is itself.
const grammar = `
$SCRIPT: $STMT | $STMT ; | $STMT ; $SCRIPT
$STMT: CREATE TABLE # ( $COLUMNS PRIMARY KEY $NAMES ) | DROP TABLE # | CREATE INDEX # ON # $NAMES | CREATE UNIQUE INDEX # ON # $NAMES | DROP INDEX #
$STMT: INSERT INTO # $NAMES VALUES $ROWS | UPDATE # SET $SETS | UPDATE # SET $SETS WHERE $E | DELETE FROM # | DELETE FROM # WHERE $E
$STMT: BEGIN | COMMIT | ROLLBACK | SAVEPOINT # | ROLLBACK TO # | RELEASE # | SELECT $ITEMS FROM $SOURCES $REST
$COLUMNS: $COLUMN , | $COLUMN , $COLUMNS
$COLUMN: # $TYPE | # $TYPE NOT NULL
$TYPE: INTEGER | TEXT | BLOB
$NAMES: ( $L )
$L: # | # , $L
$ROWS: $ROW | $ROW , $ROWS
$ROW: ( $ES )
$ES: $E | $E , $ES
$SETS: # = $E | # = $E , $SETS
$ITEMS: * | $LIST
$LIST: $ITEM | $ITEM , $LIST
$ITEM: $E | $E AS #
$SOURCES: $SOURCE | $SOURCES JOIN $SOURCE ON $E
$SOURCE: # | # AS #
$REST: $R1 | WHERE $E $R1
$R1: $R2 | GROUP BY $ES $R2
$R2: $R3 | HAVING $E $R3
$R3: $R4 | ORDER BY $ORDERS $R4
$R4: | LIMIT 0
$ORDERS: $ORDER | $ORDER , $ORDERS
$ORDER: $E | $E DESC
$E: $AND | $E OR $AND
$AND: $NOT | $AND AND $NOT
$NOT: $CMP | NOT $NOT
$CMP: $SUM | $SUM = $SUM | $SUM <> $SUM | $SUM < $SUM | $SUM <= $SUM | $SUM > $SUM | $SUM >= $SUM | $SUM IS NULL | $SUM IS NOT NULL
$SUM: $ADD | $SUM || $ADD
$ADD: $MUL | $ADD + $MUL | $ADD - $MUL
$MUL: $NEG | $MUL * $NEG | $MUL / $NEG | $MUL % $NEG
$NEG: $ONE | - $NEG
$ONE: 0 | ! | NULL | # | # . # | ( $E ) | COUNT ( * ) | COUNT ( $E ) | SUM ( $E ) | MIN ( $E ) | MAX ( $E )
`

// rules: the grammar's; a | of the language is written as two.
func rules() map[string][][]string {
	m := map[string][][]string{}
	for _, line := range strings.Split(strings.TrimSpace(grammar), "\n") {
		name, all, _ := strings.Cut(line, ":")
		for _, r := range strings.Split(" "+all+" ", " | ") {
			m[name] = append(m[name], strings.Fields(r))
		}
	}
	return m
}

// item is a rule, how much of it was seen, and from where on.
type item struct {
	name      string
	rule, dot int
	from      int
}

// firstWrong: the place of the first token with which no right text goes on (how many there are: the text ends too early; -1: it is right).
func firstWrong(g map[string][][]string, start string, tokens []string) int {
	sets := make([]map[item]bool, len(tokens)+1)
	for i := range sets {
		sets[i] = map[item]bool{}
	}
	for r := range g[start] {
		sets[0][item{start, r, 0, 0}] = true
	}
	for i := range sets {
		for grew := true; grew; {
			grew = false
			add := func(x item) {
				if !sets[i][x] {
					sets[i][x] = true
					grew = true
				}
			}
			for x := range sets[i] {
				body := g[x.name][x.rule]
				if x.dot == len(body) {
					for y := range sets[x.from] {
						if b := g[y.name][y.rule]; y.dot < len(b) && b[y.dot] == x.name {
							add(item{y.name, y.rule, y.dot + 1, y.from})
						}
					}
				} else if strings.HasPrefix(body[x.dot], "$") {
					for r := range g[body[x.dot]] {
						add(item{body[x.dot], r, 0, i})
					}
				}
			}
		}
		if i == len(tokens) {
			break
		}
		for x := range sets[i] {
			if b := g[x.name][x.rule]; x.dot < len(b) && b[x.dot] == tokens[i] {
				sets[i+1][item{x.name, x.rule, x.dot + 1, x.from}] = true
			}
		}
		if len(sets[i+1]) == 0 {
			return i
		}
	}
	for x := range sets[len(tokens)] {
		if x.name == start && x.from == 0 && x.dot == len(g[start][x.rule]) {
			return -1
		}
	}
	return len(tokens)
}

// grow: a random text of a rule.
func grow(r *rand.Rand, g map[string][][]string, name string, depth int) []string {
	var l []string
	rule := g[name][r.Intn(len(g[name]))]
	if depth > 6 && (name[1] == 'E' || len(g[name]) < 12) {
		rule = g[name][0]
	}
	for _, x := range rule {
		if strings.HasPrefix(x, "$") {
			l = append(l, grow(r, g, x, depth+1)...)
		} else {
			l = append(l, x)
		}
	}
	return l
}

// spelt: the tokens as a text, and where each begins.
func spelt(r *rand.Rand, tokens []string) (string, []int) {
	var b strings.Builder
	var at []int
	for _, x := range tokens {
		at = append(at, b.Len())
		switch x {
		case "#":
			x = []string{"a", "b", "t"}[r.Intn(3)]
		case "!":
			x = []string{"'it''s'", "x'0f'"}[r.Intn(2)]
		case "0":
			x = []string{"0", "7", "1000000000"}[r.Intn(3)]
		}
		b.WriteString(x + " ")
	}
	return b.String(), append(at, b.Len())
}

func TestAgainstGrammar(t *testing.T) { // P14.1, P14.2, P14.5
	g := rules()
	r := rand.New(rand.NewSource(18))
	all := append(lex.Words(), "#", "!", "0", "(", ")", ",", ".", "*", "+", "-", "/", "%", "=", "<", ">", ";", "<>", "<=", ">=", "||")
	for range 4000 {
		start := []string{"$SCRIPT", "$STMT", "$E"}[r.Intn(3)]
		tokens := grow(r, g, start, 0)
		if start == "$STMT" {
			start = "$SCRIPT"
		}
		if len(tokens) > 60 {
			continue
		}
		for range r.Intn(3) { // something else, something more, something less
			i := r.Intn(len(tokens) + 1)
			switch r.Intn(3) {
			case 0:
				tokens = append(tokens[:i:i], append([]string{all[r.Intn(len(all))]}, tokens[i:]...)...)
			case 1:
				tokens = tokens[:i]
			default:
				if i < len(tokens) {
					tokens[i] = all[r.Intn(len(all))]
				}
			}
		}
		text, at := spelt(r, tokens)
		var spot api.Spot
		var list []api.Stmt
		var x api.Expr
		if start == "$E" {
			x, spot = Expr(text)
		} else {
			list, spot = Script(text)
		}
		wrong := firstWrong(g, start, tokens)
		if start == "$SCRIPT" && len(tokens) == 0 {
			wrong = -1
		}
		if wrong < 0 != (spot == (api.Spot{})) || wrong >= 0 && spot != (api.Spot{Err: api.ErrText, At: at[wrong]}) {
			t.Fatalf("%q: %v, not at token %d", text, spot, wrong)
		}
		if wrong >= 0 {
			continue
		}
		for _, s := range list {
			w, e := Print(s)
			again, spot := Script(w)
			if e != api.OK || spot.Err != api.OK || len(again) != 1 || !Same(again[0], s) {
				t.Fatalf("%q: %q %d", text, w, e)
			}
		}
		if start == "$E" {
			w, e := PrintExpr(x)
			again, spot := Expr(w)
			if e != api.OK || spot.Err != api.OK || !SameExpr(again, x) {
				t.Fatalf("%q: %q %d", text, w, e)
			}
		}
	}
}
