package word_test

import (
	"math"
	"reflect"
	"slices"
	"testing"

	"foretell/api"
	"foretell/logic"
	"foretell/polish"
	"foretell/word"
)

func prop(place int) api.Op { return api.Op{Kind: api.Prop, Value: place} }

var (
	num               = api.Op{Kind: api.Num}
	and, or, not      = api.Op{Kind: api.And}, api.Op{Kind: api.Or}, api.Op{Kind: api.Not}
	yes, no           = api.Op{Kind: api.Yes}, api.Op{Kind: api.No}
	next              = api.Op{Kind: api.Next}
	until, release    = api.Op{Kind: api.Until}, api.Op{Kind: api.Release}
	finally, globally = api.Op{Kind: api.Finally}, api.Op{Kind: api.Globally}
	wrongNumbers      = []int{math.MinInt, math.MinInt + 1, -1 << 32, -1, 1 << 32, 1 << 62, math.MaxInt - 1, math.MaxInt}
)

// term of these ops.
func term(l ...api.Op) []api.Op { return l }

// join terms.
func join(l ...[]api.Op) []api.Op { return slices.Concat(l...) }

// letters as they are written: a rune a letter, its bits are the truths, the lowest one the first proposition's.
func letters(s string, props int) [][]bool {
	var l [][]bool
	for _, r := range s {
		letter := make([]bool, props)
		for place := range letter {
			letter[place] = int(r-'0')>>place&1 == 1
		}
		l = append(l, letter)
	}
	return l
}

// written: a word by its stem and its loop.
func written(stem, loop string, props int) api.Word {
	return api.Word{Stem: letters(stem, props), Loop: letters(loop, props)}
}

// truths as they are written: 1 and 0.
func truths(s string) []bool {
	var l []bool
	for _, r := range s {
		l = append(l, r == '1')
	}
	return l
}

// blank word: a stem and a loop of so many letters.
func blank(stem, loop, props int) api.Word {
	var w api.Word
	for range stem {
		w.Stem = append(w.Stem, make([]bool, props))
	}
	for range loop {
		w.Loop = append(w.Loop, make([]bool, props))
	}
	return w
}

// every word over so many propositions with a stem and a loop of so many letters.
func every(stem, loop, props int) []api.Word {
	var all []api.Word
	for n := range 1 << ((stem + loop) * props) {
		w := blank(stem, loop, props)
		for moment, letter := range slices.Concat(w.Stem, w.Loop) {
			for place := range letter {
				letter[place] = n>>(moment*props+place)&1 == 1
			}
		}
		all = append(all, w)
	}
	return all
}

// partsOf each op: the places where they begin, found from the last op on, by a stack.
func partsOf(l []api.Op) [][]int {
	parts := make([][]int, len(l))
	var stack []int
	for place, op := range slices.Backward(l) {
		many, _ := polish.Parts(op.Kind)
		for range many {
			parts[place] = append(parts[place], stack[len(stack)-1])
			stack = stack[:len(stack)-1]
		}
		stack = append(stack, place)
	}
	return parts
}

// unrolled word: so many moments of it, one behind the other.
func unrolled(w api.Word, many int) [][]bool {
	l := slices.Clone(w.Stem)
	for len(l) < many {
		l = append(l, w.Loop...)
	}
	return l[:many]
}

// some of the moments from one to ahead of another have what is looked for.
func some(from, to int, has func(moment int) bool) bool {
	for moment := from; moment < to; moment++ {
		if has(moment) {
			return true
		}
	}
	return false
}

// all of the moments from one to ahead of another have what is looked for.
func all(from, to int, has func(moment int) bool) bool {
	return !some(from, to, func(moment int) bool { return !has(moment) })
}

// tableOf what holds at each place and moment, by the document's words: what is told of later moments is looked for along the word, and at as many moments as stem and loop have all letters that come have come.
func tableOf(l []api.Op, w api.Word) [][]bool {
	many := len(w.Stem) + len(w.Loop)
	line := unrolled(w, 2*many)
	parts := partsOf(l)
	table := make([][]bool, len(l))
	for place, op := range slices.Backward(l) {
		part := func(which int) func(int) bool {
			return func(moment int) bool {
				if moment >= many {
					moment = len(w.Stem) + (moment-len(w.Stem))%len(w.Loop)
				}
				return table[parts[place][which]][moment]
			}
		}
		first, second := part(0), part(1)
		for now := range many {
			end, holds := now+many, false
			switch op.Kind {
			case api.Prop:
				holds = line[now][op.Value]
			case api.Yes:
				holds = true
			case api.Not:
				holds = !first(now)
			case api.And:
				holds = first(now) && second(now)
			case api.Or:
				holds = first(now) || second(now)
			case api.Next:
				holds = first(now + 1)
			case api.Finally:
				holds = some(now, end, first)
			case api.Globally:
				holds = all(now, end, first)
			case api.Until:
				holds = some(now, end, func(then int) bool { return second(then) && all(now, then, first) })
			case api.Release:
				holds = all(now, end, func(then int) bool { return second(then) || some(now, then, first) })
			}
			table[place] = append(table[place], holds)
		}
	}
	return table
}

// claimsOf a table, by the document's words.
func claimsOf(l []api.Op, table [][]bool) []int {
	claims := make([]int, len(table[0]))
	worth := 1
	for place, op := range l {
		if op.Kind < api.Next {
			continue
		}
		for moment, holds := range table[place] {
			if holds {
				claims[moment] += worth
			}
		}
		worth *= 2
	}
	return claims
}

// checkOf a word, by the document's words.
func checkOf(w api.Word, props int) api.Errno {
	if props < 0 || props > 6 {
		return api.ErrRange
	}
	if len(w.Stem) > 12 || len(w.Loop) == 0 || len(w.Loop) > 12 {
		return api.ErrSize
	}
	for _, part := range [][][]bool{w.Stem, w.Loop} {
		for _, letter := range part {
			if len(letter) != props {
				return api.ErrForm
			}
		}
	}
	return api.OK
}

// hold the faces against the document's words, at a formula and a word, whatever these are.
func hold(t *testing.T, l []api.Op, w api.Word, props int) {
	t.Helper()
	wantCheck := checkOf(w, props)
	if e := word.Check(w, props); e != wantCheck {
		t.Errorf("Check(%v, %d): %v, want %v", w, props, e, wantCheck)
	}
	want := logic.Check(l, props)
	if want == api.OK {
		want = wantCheck
	}
	if want != api.OK {
		refused(t, l, w, props, want)
		return
	}
	table := tableOf(l, w)
	if moments, e := word.Moments(l, w, props); !slices.Equal(moments, table[0]) || e != api.OK {
		t.Errorf("Moments(%v, %v, %d): %v, %v, want %v", l, w, props, moments, e, table[0])
	}
	if holds, e := word.Holds(l, w, props); holds != table[0][0] || e != api.OK {
		t.Errorf("Holds(%v, %v, %d): %v, %v, want %v", l, w, props, holds, e, table[0][0])
	}
	if claims, e := word.Claims(l, w, props); !slices.Equal(claims, claimsOf(l, table)) || e != api.OK {
		t.Errorf("Claims(%v, %v, %d): %v, %v, want %v", l, w, props, claims, e, claimsOf(l, table))
	}
}

// refused by all faces that take a formula, with the same error.
func refused(t *testing.T, l []api.Op, w api.Word, props int, want api.Errno) {
	t.Helper()
	if moments, e := word.Moments(l, w, props); len(moments) != 0 || e != want {
		t.Errorf("Moments(%v, %v, %d): %v, %v, want %v", l, w, props, moments, e, want)
	}
	if holds, e := word.Holds(l, w, props); holds || e != want {
		t.Errorf("Holds(%v, %v, %d): %v, %v, want %v", l, w, props, holds, e, want)
	}
	if claims, e := word.Claims(l, w, props); len(claims) != 0 || e != want {
		t.Errorf("Claims(%v, %v, %d): %v, %v, want %v", l, w, props, claims, e, want)
	}
}

// wrong word: refused by Check, and by all faces with a formula that is right.
func wrong(t *testing.T, w api.Word, props int, want api.Errno) {
	t.Helper()
	if e := word.Check(w, props); e != want {
		t.Errorf("Check(%v, %d): %v, want %v", w, props, e, want)
	}
	refused(t, term(globally, yes), w, props, want)
	refused(t, term(no), w, props, want)
}

// right word.
func right(t *testing.T, w api.Word, props int) {
	t.Helper()
	if e := word.Check(w, props); e != api.OK {
		t.Errorf("Check(%v, %d): %v", w, props, e)
	}
	if moments, e := word.Moments(term(yes), w, props); len(moments) != len(w.Stem)+len(w.Loop) || slices.Contains(moments, false) || e != api.OK {
		t.Errorf("Moments(Yes, %v, %d): %v, %v", w, props, moments, e)
	}
}

// P6.1
func TestHowManyPropositions(t *testing.T) {
	for props := range api.MaxProps + 1 {
		right(t, blank(0, 1, props), props)
		right(t, blank(2, 3, props), props)
	}
	for _, props := range append(slices.Clone(wrongNumbers), api.MaxProps+1, api.MaxProps+2, 64) {
		truths := 0
		if props == api.MaxProps+1 || props == 64 {
			truths = props // the letters are of that length
		}
		wrong(t, blank(0, 1, truths), props, api.ErrRange)
		// whatever else is wrong
		wrong(t, api.Word{}, props, api.ErrRange)
		wrong(t, blank(api.MaxWord+1, 1, truths), props, api.ErrRange)
		wrong(t, blank(1, api.MaxWord+1, 3), props, api.ErrRange)
	}
}

// P6.1
func TestHowManyLetters(t *testing.T) {
	for stem := range api.MaxWord + 4 {
		for loop := range api.MaxWord + 4 {
			w := blank(stem, loop, 2)
			if stem > api.MaxWord || loop < 1 || loop > api.MaxWord {
				wrong(t, w, 2, api.ErrSize)
				wrong(t, w, 1, api.ErrSize) // ahead of letters that are not right
				continue
			}
			right(t, w, 2)
		}
	}
	wrong(t, api.Word{}, 0, api.ErrSize)
	wrong(t, api.Word{Stem: [][]bool{}, Loop: [][]bool{}}, 0, api.ErrSize)
	wrong(t, blank(1, 0, 1), 1, api.ErrSize)
	wrong(t, blank(100000, 1, 1), 1, api.ErrSize)
	wrong(t, blank(1, 100000, 1), 1, api.ErrSize)
}

// P6.1: one letter of another length, wherever it stands.
func TestLettersOfOtherLengths(t *testing.T) {
	for props := range api.MaxProps + 1 {
		for moment := range 2 * api.MaxWord {
			for truths := range api.MaxProps + 3 {
				w := blank(api.MaxWord, api.MaxWord, props)
				if moment < api.MaxWord {
					w.Stem[moment] = make([]bool, truths)
				} else {
					w.Loop[moment-api.MaxWord] = make([]bool, truths)
				}
				if truths == props {
					right(t, w, props)
				} else {
					wrong(t, w, props, api.ErrForm)
				}
			}
		}
	}
	right(t, api.Word{Loop: [][]bool{nil}}, 0) // a letter without truths may be nil
	right(t, api.Word{Stem: [][]bool{{}, nil}, Loop: [][]bool{{}}}, 0)
	wrong(t, api.Word{Loop: [][]bool{nil}}, 1, api.ErrForm)
	wrong(t, written("", "11", 1), 0, api.ErrForm)
	wrong(t, written("", "11", 1), 2, api.ErrForm)
}

// P6.3: what logic's Check refuses is told ahead of what Check does.
func TestOrderOfRefusals(t *testing.T) {
	many := append(slices.Repeat(term(next), api.MaxTempo+1), yes)
	formulas := []struct {
		l    []api.Op
		want api.Errno
	}{
		{nil, api.ErrShort},
		{term(until, yes), api.ErrShort},
		{term(yes, yes), api.ErrForm},
		{term(num), api.ErrKind},
		{term(finally, api.Op{Kind: 19}), api.ErrKind},
		{term(prop(1)), api.ErrRange},
		{term(api.Op{Kind: api.Not, Value: 1}, yes), api.ErrRange},
		{many, api.ErrSize},
		{slices.Repeat(term(not), api.MaxOps+1), api.ErrSize},
	}
	words := []struct {
		w    api.Word
		want api.Errno
	}{
		{written("10", "01", 1), api.OK},
		{api.Word{}, api.ErrSize},
		{blank(api.MaxWord+1, 1, 1), api.ErrSize},
		{blank(0, api.MaxWord+1, 1), api.ErrSize},
		{blank(1, 1, 2), api.ErrForm},
	}
	for _, w := range words {
		for _, f := range formulas {
			refused(t, f.l, w.w, 1, f.want)
			for _, props := range append(slices.Clone(wrongNumbers), api.MaxProps+1) {
				refused(t, f.l, w.w, props, api.ErrRange)
			}
		}
		if w.want != api.OK {
			wrong(t, w.w, 1, w.want)
		}
	}
}

// P6.2, P6.3: each kind, its answers written out from the document.
func TestMoments(t *testing.T) {
	for _, c := range []struct {
		l          []api.Op
		stem, loop string
		want       string
	}{
		{term(yes), "00", "00", "1111"},
		{term(no), "33", "33", "0000"},
		{term(prop(0)), "0123", "0123", "01010101"},
		{term(prop(1)), "0123", "0123", "00110011"},
		{term(not, prop(0)), "0123", "10", "101001"},
		{term(and, prop(0), prop(1)), "0123", "3", "00011"},
		{term(or, prop(0), prop(1)), "0123", "0", "01110"},
		{term(and, not, prop(0), prop(1)), "0123", "0", "00100"},
		{term(or, and, prop(0), prop(1), not, prop(0)), "0123", "1", "10110"},
		// Next: behind the last moment the loop begins again
		{term(next, prop(0)), "", "1", "1"},
		{term(next, prop(0)), "", "0", "0"},
		{term(next, prop(0)), "", "100", "001"},
		{term(next, prop(0)), "1", "0", "00"},
		{term(next, prop(0)), "0", "1", "11"},
		{term(next, prop(0)), "01", "10", "1101"},
		{term(next, prop(0)), "10", "01", "0010"},
		{term(next, next, prop(0)), "", "100", "010"},
		{term(next, next, prop(0)), "1", "01", "101"},
		// Finally: this moment or a later one
		{term(finally, prop(0)), "", "0", "0"},
		{term(finally, prop(0)), "", "1", "1"},
		{term(finally, prop(0)), "", "0010", "1111"},
		{term(finally, prop(0)), "", "1000", "1111"},
		{term(finally, prop(0)), "0100", "000", "1100000"},
		{term(finally, prop(0)), "000", "10", "11111"},
		{term(finally, prop(0)), "1", "0", "10"},
		// Globally: this moment and all later ones
		{term(globally, prop(0)), "", "1", "1"},
		{term(globally, prop(0)), "", "0", "0"},
		{term(globally, prop(0)), "", "1101", "0000"},
		{term(globally, prop(0)), "", "0111", "0000"},
		{term(globally, prop(0)), "1011", "111", "0011111"},
		{term(globally, prop(0)), "111", "01", "00000"},
		{term(globally, prop(0)), "0", "1", "01"},
		// Until: the first part up to ahead of where the second one holds, which must come
		{term(until, prop(0), prop(1)), "", "1", "0"},
		{term(until, prop(0), prop(1)), "", "0", "0"},
		{term(until, prop(0), prop(1)), "", "2", "1"},
		{term(until, prop(0), prop(1)), "", "3", "1"},
		{term(until, prop(0), prop(1)), "", "112", "111"},
		{term(until, prop(0), prop(1)), "", "211", "111"},
		{term(until, prop(0), prop(1)), "", "121", "111"},
		{term(until, prop(0), prop(1)), "", "1020", "0010"},
		{term(until, prop(0), prop(1)), "", "0112", "0111"},
		{term(until, prop(0), prop(1)), "112", "1", "1110"},
		{term(until, prop(0), prop(1)), "1012", "0", "00110"},
		{term(until, prop(0), prop(1)), "111", "12", "11111"},
		{term(until, prop(0), prop(1)), "101", "112", "001111"},
		// Release: the second part up to where both hold, or for ever
		{term(release, prop(0), prop(1)), "", "2", "1"},
		{term(release, prop(0), prop(1)), "", "3", "1"},
		{term(release, prop(0), prop(1)), "", "1", "0"},
		{term(release, prop(0), prop(1)), "", "0", "0"},
		{term(release, prop(0), prop(1)), "", "222", "111"},
		{term(release, prop(0), prop(1)), "", "221", "000"},
		{term(release, prop(0), prop(1)), "", "223", "111"},
		{term(release, prop(0), prop(1)), "", "2302", "1101"},
		{term(release, prop(0), prop(1)), "", "0232", "0110"},
		{term(release, prop(0), prop(1)), "", "220", "000"},
		{term(release, prop(0), prop(1)), "123", "0", "0110"},
		{term(release, prop(0), prop(1)), "1222", "2", "01111"},
		{term(release, prop(0), prop(1)), "22", "20", "0000"},
		{term(release, prop(0), prop(1)), "0222", "223", "0111111"},
		// the second part begins where the first one ends
		{term(until, not, prop(0), prop(1)), "001", "2", "0001"},
		{term(release, next, prop(0), prop(1)), "2221", "0", "11100"},
		// what looks ahead within one another
		{term(globally, finally, prop(0)), "000", "001", "111111"},
		{term(globally, finally, prop(0)), "111", "000", "000000"},
		{term(finally, globally, prop(0)), "000", "111", "111111"},
		{term(finally, globally, prop(0)), "111", "110", "000000"},
		{term(finally, and, prop(0), next, prop(1)), "12", "0", "100"},
		{term(globally, or, not, prop(0), finally, prop(1)), "11", "20", "1111"},
		{term(globally, or, not, prop(0), finally, prop(1)), "121", "0", "0001"},
		{term(until, globally, prop(0), prop(1)), "12", "1", "010"},
		{term(until, globally, prop(0), prop(1)), "11", "13", "1111"},
		{term(until, next, prop(0), finally, globally, prop(1)), "01", "2", "111"},
		{term(release, globally, prop(0), finally, prop(1)), "22", "1", "000"},
		{term(release, globally, prop(0), finally, prop(1)), "13", "1", "110"},
		{term(release, globally, prop(0), finally, prop(1)), "00", "02", "1111"},
		{term(release, globally, prop(0), finally, prop(1)), "12", "0", "000"},
	} {
		w := written(c.stem, c.loop, 2)
		if moments, e := word.Moments(c.l, w, 2); !slices.Equal(moments, truths(c.want)) || e != api.OK {
			t.Errorf("Moments(%v, %s, %s): %v, %v, want %s", c.l, c.stem, c.loop, moments, e, c.want)
		}
		hold(t, c.l, w, 2)
	}
}

// P6.4: the first moment is the stem's, or the loop's where there is no stem.
func TestHolds(t *testing.T) {
	for _, c := range []struct {
		l          []api.Op
		stem, loop string
		want       bool
	}{
		{term(finally, prop(0)), "", "10", true},
		{term(globally, finally, prop(0)), "", "10", true},
		{term(finally, globally, prop(0)), "", "10", false},
		{term(prop(0)), "", "10", true},
		{term(prop(0)), "", "01", false},
		{term(prop(0)), "1", "0", true},
		{term(prop(0)), "0", "1", false},
		{term(next, prop(0)), "0", "1", true},
		{term(next, prop(0)), "1", "01", false},
		{term(yes), "0", "0", true},
		{term(no), "1", "1", false},
	} {
		if holds, e := word.Holds(c.l, written(c.stem, c.loop, 1), 1); holds != c.want || e != api.OK {
			t.Errorf("Holds(%v, %s, %s): %v, %v", c.l, c.stem, c.loop, holds, e)
		}
	}
}

// P6.5
func TestClaims(t *testing.T) {
	for _, c := range []struct {
		l          []api.Op
		stem, loop string
		want       []int
	}{
		// nothing looks ahead: the claim has no bit, whatever holds
		{term(yes), "0", "0", []int{0, 0}},
		{term(prop(0)), "1", "11", []int{0, 0, 0}},
		{term(and, not, prop(0), or, prop(1), yes), "", "2", []int{0}},
		// one bit
		{term(next, prop(0)), "", "10", []int{0, 1}},
		{term(finally, prop(0)), "01", "0", []int{1, 1, 0}},
		{term(globally, prop(0)), "01", "1", []int{0, 1, 1}},
		{term(until, prop(0), prop(1)), "12", "1", []int{1, 1, 0}},
		{term(release, prop(0), prop(1)), "12", "20", []int{0, 0, 0, 0}},
		{term(release, prop(0), prop(1)), "12", "2", []int{0, 1, 1}},
		// what stands around an op changes nothing of its bit
		{term(not, next, prop(0)), "", "10", []int{0, 1}},
		{term(and, no, next, prop(0)), "", "10", []int{0, 1}},
		// the first one's bit is the lowest
		{term(and, next, prop(0), finally, prop(1)), "21", "0", []int{3, 0, 0}},
		{term(and, finally, prop(1), next, prop(0)), "20", "01", []int{1, 0, 2, 0}},
		{term(globally, finally, prop(0)), "1", "0", []int{2, 0}},
		{term(globally, finally, prop(0)), "0", "01", []int{3, 3, 3}},
		{term(finally, globally, prop(0)), "10", "1", []int{1, 1, 3}},
		{term(until, next, prop(0), globally, prop(1)), "012", "2", []int{2, 0, 5, 5}},
		{term(and, and, next, yes, and, next, no, next, yes, and, next, no, and, next, no, next, yes), "3", "3", []int{37, 37}},
	} {
		w := written(c.stem, c.loop, 2)
		if claims, e := word.Claims(c.l, w, 2); !slices.Equal(claims, c.want) || e != api.OK {
			t.Errorf("Claims(%v, %s, %s): %v, %v, want %v", c.l, c.stem, c.loop, claims, e, c.want)
		}
		hold(t, c.l, w, 2)
	}
}

// everyFormula over two propositions of up to so many ops.
func everyFormula(most int) [][]api.Op {
	ops := term(prop(0), prop(1), yes, no, not, and, or, next, until, release, finally, globally)
	bySize := [][][]api.Op{nil}
	for size := 1; size <= most; size++ {
		var made [][]api.Op
		for _, op := range ops {
			parts, _ := polish.Parts(op.Kind)
			switch {
			case parts == 0 && size == 1:
				made = append(made, term(op))
			case parts == 1:
				for _, part := range bySize[size-1] {
					made = append(made, join(term(op), part))
				}
			case parts == 2:
				for firstSize := 1; firstSize < size-1; firstSize++ {
					for _, first := range bySize[firstSize] {
						for _, second := range bySize[size-1-firstSize] {
							made = append(made, join(term(op), first, second))
						}
					}
				}
			}
		}
		bySize = append(bySize, made)
	}
	return slices.Concat(bySize...)
}

// P6.2 to P6.5: short formulas at every short word.
func TestEveryShortFormula(t *testing.T) {
	var words []api.Word
	for _, size := range [][2]int{{0, 1}, {0, 2}, {0, 3}, {1, 1}, {1, 2}, {2, 1}} {
		words = append(words, every(size[0], size[1], 2)...)
	}
	for _, l := range everyFormula(4) {
		for _, w := range words {
			hold(t, l, w, 2)
		}
	}
}

// P6.2: the kinds that look ahead at every word of up to five letters of two propositions, and of up to ten of one.
func TestEveryShortWord(t *testing.T) {
	formulas := [][]api.Op{term(until, prop(0), prop(1)), term(release, prop(0), prop(1)), term(until, not, prop(0), next, prop(1)), term(release, until, prop(0), prop(1), next, prop(0))}
	for stem := range 5 {
		for loop := 1; stem+loop <= 5; loop++ {
			for _, w := range every(stem, loop, 2) {
				for _, l := range formulas {
					hold(t, l, w, 2)
				}
			}
		}
	}
	one := [][]api.Op{term(finally, prop(0)), term(globally, prop(0)), term(next, prop(0)), term(globally, finally, prop(0)), term(finally, globally, prop(0)), term(finally, next, globally, prop(0))}
	for stem := range 10 {
		for loop := 1; stem+loop <= 10; loop += 2 {
			for _, w := range every(stem, loop, 1) {
				for _, l := range one {
					hold(t, l, w, 1)
				}
			}
		}
	}
}

// die: numbers that look drawn, the same each time.
type die uint64

func (d *die) below(most int) int {
	*d = *d*6364136223846793005 + 1442695040888963407
	return int(uint64(*d>>33) % uint64(most))
}

// formula over so many propositions, with a slip now and then where these are wanted.
func (d *die) formula(deep, props int, slips bool) []api.Op {
	op := api.Op{Kind: api.And + d.below(api.Globally-api.And+1)}
	if deep > 3 { // great ones are wide, and few of their ops look ahead
		op.Kind = []int{api.And, api.Or, api.Not, api.Until, api.Release}[d.below(5)]
	}
	if deep <= 0 { // below 0 behind a slip that has parts
		op.Kind = api.Prop
	}
	if op.Kind == api.Prop {
		op.Value = d.below(props)
	}
	if slips && d.below(100) == 0 {
		op.Value = props
	}
	if slips && d.below(100) == 0 {
		op.Kind = d.below(api.Globally + 2)
	}
	l := term(op)
	parts, _ := polish.Parts(op.Kind)
	for range parts {
		l = append(l, d.formula(deep-1, props, slips)...)
	}
	return l
}

// word over so many propositions, of at most so many letters in stem and loop each; of each proposition the truths come in stretches.
func (d *die) word(most, props int) api.Word {
	w := blank(d.below(most+1), 1+d.below(most), props)
	letter := make([]bool, props)
	for _, place := range slices.Concat(w.Stem, w.Loop) {
		for one := range letter {
			if d.below(3) == 0 {
				letter[one] = !letter[one]
			}
		}
		copy(place, letter)
	}
	return w
}

// P6.1 to P6.5
func TestDrawn(t *testing.T) {
	d := die(6)
	seen := map[api.Errno]int{}
	longest, kept := 0, 0
	for range 20000 {
		props := 1 + d.below(api.MaxProps)
		l, w := d.formula(1+d.below(6), props, true), d.word(api.MaxWord, props)
		switch d.below(60) {
		case 0:
			l = append(l, yes)
		case 1:
			l = l[:len(l)-1]
		case 2:
			w.Loop = nil
		case 3:
			w.Loop[d.below(len(w.Loop))] = make([]bool, props+1)
		case 4:
			w.Stem = append(w.Stem, w.Loop...)
		}
		hold(t, l, w, props)
		holds, e := word.Holds(l, w, props)
		seen[e]++
		if holds {
			kept++
		}
		if e == api.OK {
			longest = max(longest, len(l))
		}
	}
	for _, e := range []api.Errno{api.OK, api.ErrSize, api.ErrRange, api.ErrForm, api.ErrShort, api.ErrKind} {
		if seen[e] < 20 {
			t.Errorf("too few outcomes %v were drawn: %v", e, seen)
		}
	}
	if longest < 30 || kept < 1000 || seen[api.OK]-kept < 1000 {
		t.Errorf("too little was drawn: formulas of at most %d ops, %d of %d hold", longest, kept, seen[api.OK])
	}
}

// P6.2 to P6.5: the greatest formula there is at the greatest words.
func TestGreatest(t *testing.T) {
	wide := term(until, release, finally, globally, next, not, next, prop(5))
	for place := range 24 {
		wide = append(wide, term(and, or)[place%2], prop(place%6))
	}
	wide = append(wide, prop(0), not, not, prop(1))
	chain := join(slices.Repeat(term(not), api.MaxOps-7), term(globally, finally, next, globally, finally, next, prop(5)))
	d := die(7)
	for _, l := range [][]api.Op{wide, chain} {
		if ahead, e := logic.Ahead(l, 6); len(l) != api.MaxOps || len(ahead) != api.MaxTempo || e != api.OK {
			t.Fatalf("%d ops, %v look ahead, %v", len(l), ahead, e)
		}
		for range 500 {
			w := d.word(api.MaxWord, 6)
			for len(w.Stem) < api.MaxWord {
				w.Stem = append(w.Stem, w.Loop[0])
			}
			for len(w.Loop) < api.MaxWord {
				w.Loop = append(w.Loop, w.Stem[len(w.Loop)])
			}
			hold(t, l, w, 6)
		}
	}
	// one letter that is unlike all others is found from everywhere if it stands in the loop, and up to itself if it stands in the stem
	for moment := range 2 * api.MaxWord {
		w := blank(api.MaxWord, api.MaxWord, 1)
		slices.Concat(w.Stem, w.Loop)[moment][0] = true
		want := make([]bool, 2*api.MaxWord)
		for now := range want {
			want[now] = now <= moment || moment >= api.MaxWord
		}
		if moments, e := word.Moments(term(finally, prop(0)), w, 1); !slices.Equal(moments, want) || e != api.OK {
			t.Errorf("Finally, the letter at %d: %v, %v", moment, moments, e)
		}
		if moments, e := word.Moments(term(not, globally, not, prop(0)), w, 1); !slices.Equal(moments, want) || e != api.OK {
			t.Errorf("Not Globally Not, the letter at %d: %v, %v", moment, moments, e)
		}
	}
}

// same: at each moment of a word, and at the moments of another telling of it, a formula holds alike.
func same(t *testing.T, l []api.Op, w, other api.Word, props int) {
	t.Helper()
	moments, e := word.Moments(l, w, props)
	claims, _ := word.Claims(l, w, props)
	others, otherE := word.Moments(l, other, props)
	otherClaims, _ := word.Claims(l, other, props)
	if e != api.OK || otherE != api.OK {
		t.Fatalf("Moments(%v, %v or %v): %v, %v", l, w, other, e, otherE)
	}
	for moment := range others {
		then := moment
		if moment >= len(moments) {
			then = len(w.Stem) + (moment-len(w.Stem))%len(w.Loop)
		}
		if others[moment] != moments[then] || otherClaims[moment] != claims[then] {
			t.Errorf("%v of %v: %v, %v, but of %v: %v, %v", l, w, moments, claims, other, others, otherClaims)
			return
		}
	}
}

// P6.2: a word may be told in other ways, and the same holds.
func TestToldInOtherWays(t *testing.T) {
	d := die(8)
	for range 3000 {
		l, w := d.formula(3, 2, false), d.word(4, 2)
		if logic.Check(l, 2) != api.OK {
			continue
		}
		longer := slices.Concat(w.Stem, w.Loop)
		around := slices.Concat(w.Loop[1:], w.Loop[:1])
		same(t, l, w, api.Word{Stem: longer, Loop: w.Loop}, 2)
		same(t, l, w, api.Word{Stem: longer[:len(w.Stem)+1], Loop: around}, 2)
		same(t, l, w, api.Word{Stem: w.Stem, Loop: slices.Concat(w.Loop, w.Loop)}, 2)
		same(t, l, w, api.Word{Stem: longer, Loop: slices.Concat(w.Loop, w.Loop, w.Loop)}, 2)
	}
}

// P6.5: the claims follow one another, nothing waits for ever in the loop, and they tell what holds.
func TestClaimsFollow(t *testing.T) {
	d := die(9)
	formulas := 0
	for formulas < 2000 {
		l, w := d.formula(1+d.below(4), 2, false), d.word(5, 2)
		ahead, e := logic.Ahead(l, 2)
		if e != api.OK || len(ahead) == 0 {
			continue
		}
		formulas++
		claims, e := word.Claims(l, w, 2)
		moments, _ := word.Moments(l, w, 2)
		line := slices.Concat(w.Stem, w.Loop)
		if len(claims) != len(line) || len(moments) != len(line) || e != api.OK {
			t.Fatalf("Claims(%v, %v): %v, %v", l, w, claims, e)
		}
		met := 0
		for now, letter := range line {
			then := now + 1
			if then == len(line) {
				then = len(w.Stem)
			}
			if follows, e := logic.Follows(l, letter, claims[now], line[then], claims[then]); !follows || e != api.OK {
				t.Errorf("%v of %v: claim %d behind %d, at %d: %v, %v", l, w, claims[then], claims[now], now, follows, e)
			}
			if truths, e := logic.Truths(l, letter, claims[now]); e != api.OK || truths[0] != moments[now] {
				t.Errorf("%v of %v at %d: %v, %v by the claim, %v", l, w, now, truths, e, moments[now])
			}
			if now >= len(w.Stem) {
				meets, _ := logic.Meets(l, letter, claims[now])
				met |= meets
			}
		}
		if met != 1<<len(ahead)-1 {
			t.Errorf("%v of %v: the claims %v wait for ever: only %d are met", l, w, claims, met)
		}
	}
}

// copied word: new memory all through.
func copied(w api.Word) api.Word {
	var c api.Word
	for _, letter := range w.Stem {
		c.Stem = append(c.Stem, slices.Clone(letter))
	}
	for _, letter := range w.Loop {
		c.Loop = append(c.Loop, slices.Clone(letter))
	}
	return c
}

// What is handed in stays as it is, its spare room too.
func TestListsHandedInStay(t *testing.T) {
	d := die(10)
	room := term(until, and, prop(0), not, next, prop(1), finally, globally, no, yes, release)
	whole := blank(15, 15, 4)
	for _, letter := range slices.Concat(whole.Stem, whole.Loop) {
		for place := range letter {
			letter[place] = d.below(2) == 0
		}
	}
	before, roomBefore := copied(whole), slices.Clone(room)
	for many := range len(room) + 1 {
		for letters := range 15 {
			for props := range 5 {
				w := api.Word{Stem: make([][]bool, 15), Loop: make([][]bool, 15)}
				for moment := range 15 {
					w.Stem[moment], w.Loop[moment] = whole.Stem[moment][:props], whole.Loop[moment][:props]
				}
				handed := api.Word{Stem: w.Stem[:14-letters], Loop: w.Loop[:letters]}
				word.Check(handed, props)
				word.Moments(room[:many], handed, props)
				word.Holds(room[:many], handed, props)
				word.Claims(room[:many], handed, props)
				for moment := range 15 {
					if &whole.Stem[moment][0] != &w.Stem[moment][:1][0] || &whole.Loop[moment][0] != &w.Loop[moment][:1][0] || len(w.Stem[moment]) != props || len(w.Loop[moment]) != props {
						t.Fatalf("%d ops, %d letters and %d propositions handed in: another letter lies at %d", many, letters, props, moment)
					}
				}
				if !slices.Equal(room, roomBefore) || !reflect.DeepEqual(whole, before) {
					t.Fatalf("%d ops, %d letters and %d propositions handed in: %v and %v are left", many, letters, props, room, whole)
				}
			}
		}
	}
}

// Answers are new memory, spare room too: what is written there shows in no argument and in no other answer.
func TestAnswersAreNew(t *testing.T) {
	for _, l := range [][]api.Op{term(prop(0)), term(yes), term(finally, prop(1)), term(until, next, prop(0), or, finally, prop(1), not, prop(0))} {
		w := written("012", "3021", 2)
		before, listBefore := copied(w), slices.Clone(l)
		otherMoments, _ := word.Moments(l, w, 2)
		otherClaims, _ := word.Claims(l, w, 2)
		keptMoments, keptClaims := slices.Clone(otherMoments), slices.Clone(otherClaims)
		moments, _ := word.Moments(l, w, 2)
		claims, _ := word.Claims(l, w, 2)
		for place := range moments[:cap(moments)] {
			moments[:cap(moments)][place] = !moments[:cap(moments)][place]
		}
		for place := range claims[:cap(claims)] {
			claims[:cap(claims)][place] = -7
		}
		if !slices.Equal(l, listBefore) || !reflect.DeepEqual(w, before) {
			t.Errorf("%v and %v are left", l, w)
		}
		if !slices.Equal(otherMoments, keptMoments) || !slices.Equal(otherClaims, keptClaims) {
			t.Errorf("other answers became %v and %v", otherMoments, otherClaims)
		}
		again, _ := word.Moments(l, w, 2)
		claimsAgain, _ := word.Claims(l, w, 2)
		if !slices.Equal(again, keptMoments) || !slices.Equal(claimsAgain, keptClaims) {
			t.Errorf("later answers became %v and %v", again, claimsAgain)
		}
	}
}
