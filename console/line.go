package console

import (
	"math"
	"strconv"
	"strings"

	"counterfoil/api"
	"counterfoil/value"
)

// field is a field of an act's line.
type field int

const (
	fieldNode field = iota
	fieldN
	fieldAt
	fieldX
	fieldHow  // X, as how an operation fails
	fieldKeep // what a crash keeps, if anything is told of that
	fieldText // all that is left
)

// shape is how an act's line is: its word, and its fields.
type shape struct {
	kind   int
	word   string
	fields []field
}

// shapes are those of all acts.
var shapes = [...]shape{
	{api.ActRun, "run", []field{fieldText}},
	{api.ActTick, "tick", []field{fieldNode}},
	{api.ActDeliver, "deliver", []field{fieldN}},
	{api.ActDrop, "drop", []field{fieldN}},
	{api.ActTwice, "twice", []field{fieldN}},
	{api.ActSpoil, "spoil", []field{fieldN, fieldAt, fieldX}},
	{api.ActArm, "arm", []field{fieldNode, fieldN, fieldHow}},
	{api.ActPower, "power", []field{fieldNode, fieldN}},
	{api.ActCrash, "crash", []field{fieldNode, fieldKeep}},
	{api.ActCheckpoint, "checkpoint", []field{fieldNode}},
	{api.ActBackup, "backup", nil},
	{api.ActStep, "step", []field{fieldN}},
	{api.ActGather, "gather", nil},
	{api.ActRestore, "restore", []field{fieldN}},
}

const (
	blank = " "
	end   = "\n"
	fails = "io"
	full  = "space"
	kept  = '+'
	lost  = '-'
)

// joined: the words, with a blank between two.
func joined(words ...string) string { return strings.Join(words, blank) }

// Line: the act's line.
func Line(a api.Act) (string, api.Errno) {
	for _, s := range shapes {
		if s.kind != a.Kind {
			continue
		}
		words := []string{s.word}
		for _, f := range s.fields {
			w, ok := put(f, &a)
			if !ok {
				return "", api.ErrArg
			}
			words = append(words, w...)
		}
		// What was put is taken out of the act: nothing else may be left.
		if a.Node != 0 || a.N != 0 || a.At != 0 || a.X != 0 || a.Text != "" || len(a.Keep) > 0 {
			return "", api.ErrArg
		}
		return joined(words...), api.OK
	}
	return "", api.ErrArg
}

// put: the words of a field, which is taken out of the act.
func put(f field, a *api.Act) (words []string, ok bool) {
	was := *a
	switch f {
	case fieldNode:
		a.Node = 0
		return []string{strconv.Itoa(was.Node)}, true
	case fieldN:
		a.N = 0
		return []string{strconv.Itoa(was.N)}, true
	case fieldAt:
		a.At = 0
		return []string{strconv.Itoa(was.At)}, true
	case fieldX:
		a.X = 0
		return []string{strconv.Itoa(int(was.X))}, true
	case fieldHow:
		a.X = 0
		return []string{how(was.X)}, was.X < 2
	case fieldKeep:
		a.Keep = nil
		return keepWord(was.Keep), true
	}
	a.Text = ""
	return []string{was.Text}, !strings.Contains(was.Text, end)
}

// how: how an operation that is armed with X fails.
func how(x uint8) string {
	if x == 1 {
		return fails
	}
	return full
}

// keepWord: the word of what a crash keeps, if it keeps anything or not.
func keepWord(keep []bool) []string {
	if len(keep) == 0 {
		return nil
	}
	var b strings.Builder
	for _, k := range keep {
		if k {
			b.WriteRune(kept)
		} else {
			b.WriteRune(lost)
		}
	}
	return []string{b.String()}
}

// Read: the act whose line it is.
func Read(line string) (api.Act, api.Errno) {
	word, left, more := strings.Cut(line, blank)
	take := func(upTo string) (w string, ok bool) {
		if ok = more; ok {
			w, left, more = strings.Cut(left, upTo)
		}
		return w, ok
	}
	for _, s := range shapes {
		if s.word != word {
			continue
		}
		a, far := api.Act{Kind: s.kind}, api.OK
		for _, f := range s.fields {
			switch e := get(f, take, &a); e {
			case api.OK:
			case api.ErrRange: // but for that it may be one
				far = e
			default:
				return api.Act{}, e
			}
		}
		if more {
			return api.Act{}, api.ErrText
		}
		if far != api.OK {
			return api.Act{}, far
		}
		return a, api.OK
	}
	return api.Act{}, api.ErrText
}

// get: the field that comes next is put into the act.
func get(f field, take func(upTo string) (string, bool), a *api.Act) api.Errno {
	if f == fieldText {
		s, ok := take(end)
		a.Text = s
		return textUnless(ok)
	}
	w, ok := take(blank)
	switch f {
	case fieldHow:
		if w == fails {
			a.X = 1
		}
		return textUnless(w == fails || w == full)
	case fieldKeep:
		var well bool
		a.Keep, well = keepOf(w)
		return textUnless(!ok || well)
	}
	n, e := number(w)
	if e != api.OK {
		return e
	}
	switch f {
	case fieldNode:
		a.Node = n
	case fieldN:
		a.N = n
	case fieldAt:
		a.At = n
	case fieldX:
		if n < 0 || n > math.MaxUint8 {
			return api.ErrRange
		}
		a.X = uint8(n)
	}
	return api.OK
}

// textUnless: ErrText, unless it is well.
func textUnless(well bool) api.Errno {
	if well {
		return api.OK
	}
	return api.ErrText
}

// keepOf: what a crash keeps, by its word.
func keepOf(word string) (keep []bool, ok bool) {
	for _, c := range word {
		if c != kept && c != lost {
			return nil, false
		}
		keep = append(keep, c == kept)
	}
	return keep, word != ""
}

// number: the int that a word is; ErrRange of one that is too far from 0.
func number(word string) (int, api.Errno) {
	v, e := value.Read(word)
	if e == api.OK && v.Kind == api.KInt {
		n := int(v.N)
		if int64(n) != v.N {
			return 0, api.ErrRange
		}
		return n, api.OK
	}
	digits := strings.TrimPrefix(word, "-")
	if digits == "" || digits[0] == '0' || strings.Trim(digits, "0123456789") != "" {
		return 0, api.ErrText
	}
	return 0, api.ErrRange
}
