package logic_test

import (
	"math"
	"reflect"
	"slices"
	"testing"

	"foretell/api"
	"foretell/logic"
	"foretell/polish"
)

func prop(place int) api.Op { return api.Op{Kind: api.Prop, Value: place} }

var (
	num               = api.Op{Kind: api.Num}
	add               = api.Op{Kind: api.Add}
	and, or, not      = api.Op{Kind: api.And}, api.Op{Kind: api.Or}, api.Op{Kind: api.Not}
	yes, no           = api.Op{Kind: api.Yes}, api.Op{Kind: api.No}
	next              = api.Op{Kind: api.Next}
	until, release    = api.Op{Kind: api.Until}, api.Op{Kind: api.Release}
	finally, globally = api.Op{Kind: api.Finally}, api.Op{Kind: api.Globally}
	looking           = []api.Op{next, until, release, finally, globally}
	wrongNumbers      = []int{math.MinInt, math.MinInt + 1, -1 << 32, -1, 1 << 32, 1 << 62, math.MaxInt - 1, math.MaxInt}
)

// term of these ops.
func term(l ...api.Op) []api.Op { return l }

// join terms.
func join(l ...[]api.Op) []api.Op { return slices.Concat(l...) }

// with as many parts as an op has, all the same.
func with(op, part api.Op) []api.Op {
	parts, _ := polish.Parts(op.Kind)
	return append(term(op), slices.Repeat(term(part), parts)...)
}

// letters of so many propositions, all of them: bit by bit of the numbers from 0 on.
func letters(props int) [][]bool {
	var all [][]bool
	for n := range 1 << props {
		letter := make([]bool, props)
		for place := range letter {
			letter[place] = n>>place&1 == 1
		}
		all = append(all, letter)
	}
	return all
}

// partsOf each op: the places where they begin, found from the last op on, by a stack.
func partsOf(l []api.Op) [][]int {
	parts := make([][]int, len(l))
	var stack []int
	for place, op := range slices.Backward(l) {
		many, _ := polish.Parts(op.Kind)
		for range many {
			parts[place] = append(parts[place], stack[len(stack)-1])
			stack = stack[:len(stack)-1]
		}
		stack = append(stack, place)
	}
	return parts
}

// checkOf a list, by the document's words.
func checkOf(l []api.Op, props int) api.Errno {
	if props < 0 || props > 6 {
		return api.ErrRange
	}
	if _, e := polish.Ends(l); e != api.OK {
		return e
	}
	for _, op := range l {
		switch {
		case op.Kind < 8:
			return api.ErrKind
		case op.Kind == 13 && (op.Value < 0 || op.Value >= props):
			return api.ErrRange
		case op.Kind != 13 && op.Value != 0:
			return api.ErrRange
		}
	}
	if len(aheadOf(l)) > 6 {
		return api.ErrSize
	}
	return api.OK
}

// aheadOf a list: where the last five kinds stand.
func aheadOf(l []api.Op) []int {
	places := []int{}
	for place, op := range l {
		if op.Kind >= 14 {
			places = append(places, place)
		}
	}
	return places
}

// truthsOf a formula, by the document's words.
func truthsOf(l []api.Op, letter []bool, claim int) ([]bool, api.Errno) {
	if e := checkOf(l, len(letter)); e != api.OK {
		return nil, e
	}
	ahead := aheadOf(l)
	if claim < 0 || float64(claim) >= math.Pow(2, float64(len(ahead))) {
		return nil, api.ErrRange
	}
	parts := partsOf(l)
	var holds func(place int) bool
	holds = func(place int) bool {
		many := 0 // parts that hold
		for _, part := range parts[place] {
			if holds(part) {
				many++
			}
		}
		switch l[place].Kind {
		case api.Prop:
			return letter[l[place].Value]
		case api.Yes, api.No:
			return l[place].Kind == api.Yes
		case api.Not:
			return many == 0
		case api.And:
			return many == 2
		case api.Or:
			return many >= 1
		}
		return claim&(1<<slices.Index(ahead, place)) != 0
	}
	truths := make([]bool, len(l))
	for place := range l {
		truths[place] = holds(place)
	}
	return truths, api.OK
}

// lawOf each kind: whether it holds now, for each case of: the first part holds now, the second part does (or, of one part, the first part does at the next moment), it holds itself at the next one; written out from the document.
var lawOf = map[int][8]int{
	//                000 001 010 011 100 101 110 111
	api.Next:     {0, 0, 1, 1, 0, 0, 1, 1},
	api.Finally:  {0, 1, 0, 1, 1, 1, 1, 1},
	api.Globally: {0, 0, 0, 0, 0, 1, 0, 1},
	api.Until:    {0, 0, 1, 1, 0, 1, 1, 1},
	api.Release:  {0, 0, 0, 1, 0, 0, 1, 1},
}

// bits as a number, the first one the highest.
func bits(l ...bool) int {
	n := 0
	for _, bit := range l {
		n *= 2
		if bit {
			n++
		}
	}
	return n
}

// followsOf two moments, by the document's words.
func followsOf(l []api.Op, now []bool, claim int, next []bool, later int) (bool, api.Errno) {
	if len(now) != len(next) {
		return false, api.ErrSize
	}
	here, e := truthsOf(l, now, claim)
	if e != api.OK {
		return false, e
	}
	there, e := truthsOf(l, next, later)
	if e != api.OK {
		return false, e
	}
	parts := partsOf(l)
	for _, place := range aheadOf(l) {
		first := parts[place][0]
		second := there[first]
		if len(parts[place]) == 2 {
			second = here[parts[place][1]]
		}
		law := lawOf[l[place].Kind]
		if here[place] != (law[bits(here[first], second, there[place])] == 1) {
			return false, api.OK
		}
	}
	return true, api.OK
}

// meetsOf a claim, by the document's words.
func meetsOf(l []api.Op, letter []bool, claim int) (int, api.Errno) {
	truths, e := truthsOf(l, letter, claim)
	if e != api.OK {
		return 0, e
	}
	parts := partsOf(l)
	meets, worth := 0, 1
	for _, place := range aheadOf(l) {
		last := truths[parts[place][len(parts[place])-1]] // the only part, or the second one
		waits := false
		switch l[place].Kind {
		case api.Finally, api.Until:
			waits = truths[place] && !last
		case api.Globally, api.Release:
			waits = !truths[place] && last
		}
		if !waits {
			meets += worth
		}
		worth *= 2
	}
	return meets, api.OK
}

// checkOne moment: all faces but Follows.
func checkOne(t *testing.T, l []api.Op, letter []bool, claim int) {
	t.Helper()
	truths, e := logic.Truths(l, letter, claim)
	if want, wantErr := truthsOf(l, letter, claim); !slices.Equal(truths, want) || e != wantErr {
		t.Errorf("Truths(%v, %v, %d): %v, %v, want %v, %v", l, letter, claim, truths, e, want, wantErr)
	}
	meets, e := logic.Meets(l, letter, claim)
	if want, wantErr := meetsOf(l, letter, claim); meets != want || e != wantErr {
		t.Errorf("Meets(%v, %v, %d): %d, %v, want %d, %v", l, letter, claim, meets, e, want, wantErr)
	}
}

// checkTwo moments.
func checkTwo(t *testing.T, l []api.Op, now []bool, claim int, next []bool, later int) {
	t.Helper()
	follows, e := logic.Follows(l, now, claim, next, later)
	if want, wantErr := followsOf(l, now, claim, next, later); follows != want || e != wantErr {
		t.Errorf("Follows(%v, %v, %d, %v, %d): %v, %v, want %v, %v", l, now, claim, next, later, follows, e, want, wantErr)
	}
}

// checkList: Check and Ahead, at a list.
func checkList(t *testing.T, l []api.Op, props int) {
	t.Helper()
	want := checkOf(l, props)
	if e := logic.Check(l, props); e != want {
		t.Errorf("Check(%v, %d): %v, want %v", l, props, e, want)
	}
	var places []int
	if want == api.OK {
		places = aheadOf(l)
	}
	if ahead, e := logic.Ahead(l, props); !slices.Equal(ahead, places) || e != want {
		t.Errorf("Ahead(%v, %d): %v, %v, want %v, %v", l, props, ahead, e, places, want)
	}
}

// refused by all faces with the same error.
func refused(t *testing.T, l []api.Op, props int, want api.Errno) {
	t.Helper()
	if e := logic.Check(l, props); e != want {
		t.Errorf("Check(%v, %d): %v, want %v", l, props, e, want)
	}
	if ahead, e := logic.Ahead(l, props); len(ahead) != 0 || e != want {
		t.Errorf("Ahead(%v, %d): %v, %v, want %v", l, props, ahead, e, want)
	}
	if props < 0 || props > 100 {
		return
	}
	letter := make([]bool, props)
	for _, claim := range []int{0, -1, 1 << 20} { // a claim that is wrong is told behind it
		if truths, e := logic.Truths(l, letter, claim); len(truths) != 0 || e != want {
			t.Errorf("Truths(%v, %v, %d): %v, %v, want %v", l, letter, claim, truths, e, want)
		}
		if follows, e := logic.Follows(l, letter, claim, letter, claim); follows || e != want {
			t.Errorf("Follows(%v, %v, %d): %v, %v, want %v", l, letter, claim, follows, e, want)
		}
		if meets, e := logic.Meets(l, letter, claim); meets != 0 || e != want {
			t.Errorf("Meets(%v, %v, %d): %d, %v, want %v", l, letter, claim, meets, e, want)
		}
	}
}

// taken by Check.
func taken(t *testing.T, l []api.Op, props int) {
	t.Helper()
	if e := logic.Check(l, props); e != api.OK {
		t.Errorf("Check(%v, %d): %v", l, props, e)
	}
}

// P5.1, P5.2
func TestKinds(t *testing.T) {
	for kind := api.Num; kind <= api.Globally; kind++ {
		l := with(api.Op{Kind: kind}, yes)
		around := [][]api.Op{l, join(term(not), l), join(term(and, no), l), join(term(or), l, term(prop(0))), join(term(next), l), join(term(until, yes), l), join(term(release), l, term(no))}
		for _, whole := range around {
			if kind < api.And {
				refused(t, whole, 1, api.ErrKind)
			} else {
				taken(t, whole, 1)
			}
		}
	}
	// the kinds of expressions are refused as parts, whatever stands around them
	refused(t, term(and, yes, num), 0, api.ErrKind)
	refused(t, term(finally, api.Op{Kind: api.Eq}, num, num), 0, api.ErrKind)
	refused(t, term(globally, api.Op{Kind: api.Lt}, api.Op{Kind: api.Var}, num), 0, api.ErrKind)
}

// P5.2
func TestHowManyPropositions(t *testing.T) {
	for props := range api.MaxProps + 1 {
		taken(t, term(yes), props)
		if truths, e := logic.Truths(term(yes), make([]bool, props), 0); !slices.Equal(truths, []bool{true}) || e != api.OK {
			t.Errorf("Truths with %d propositions: %v, %v", props, truths, e)
		}
	}
	for _, props := range append(wrongNumbers, api.MaxProps+1, api.MaxProps+2, 64) {
		refused(t, term(yes), props, api.ErrRange)
		// whatever else is wrong
		refused(t, nil, props, api.ErrRange)
		refused(t, term(num), props, api.ErrRange)
		refused(t, slices.Repeat(term(no), api.MaxOps+1), props, api.ErrRange)
		refused(t, append(slices.Repeat(term(next), api.MaxTempo+1), yes), props, api.ErrRange)
	}
}

// P5.2
func TestWhatEndsRefuses(t *testing.T) {
	refused(t, nil, 1, api.ErrShort)
	refused(t, term(), 1, api.ErrShort)
	refused(t, term(until, yes), 1, api.ErrShort)
	refused(t, term(globally), 1, api.ErrShort)
	refused(t, term(yes, yes), 1, api.ErrForm)
	refused(t, term(finally, yes, yes), 1, api.ErrForm)
	refused(t, term(api.Op{}), 1, api.ErrKind)
	refused(t, term(not, api.Op{Kind: -1}), 1, api.ErrKind)
	refused(t, term(api.Op{Kind: 19}), 1, api.ErrKind)
	refused(t, slices.Repeat(term(not), api.MaxOps+1), 1, api.ErrSize)
	for _, kind := range wrongNumbers {
		refused(t, term(api.Op{Kind: kind}), 1, api.ErrKind)
	}
	// ahead of kinds, values, and too many that look ahead
	refused(t, term(add, yes), 1, api.ErrShort)
	refused(t, term(num, yes), 1, api.ErrForm)
	refused(t, term(prop(1), yes), 1, api.ErrForm)
	refused(t, term(and, prop(1)), 1, api.ErrShort)
	refused(t, term(and, prop(1), api.Op{}), 1, api.ErrKind)
	refused(t, slices.Repeat(term(next), api.MaxTempo+1), 1, api.ErrShort)
	refused(t, slices.Repeat(term(add), api.MaxOps+1), 1, api.ErrSize)
}

// P5.2
func TestValues(t *testing.T) {
	for props := range api.MaxProps + 1 {
		for place := range props {
			taken(t, term(prop(place)), props)
			taken(t, term(until, prop(place), not, prop(0)), props)
		}
		for _, place := range append(wrongNumbers, props, props+1) {
			refused(t, term(prop(place)), props, api.ErrRange)
			refused(t, term(release, yes, not, prop(place)), props, api.ErrRange)
		}
	}
	for kind := api.And; kind <= api.Globally; kind++ {
		for _, n := range append(wrongNumbers, 1, 2) {
			if kind == api.Prop {
				continue
			}
			refused(t, with(api.Op{Kind: kind, Value: n}, yes), api.MaxProps, api.ErrRange)
			refused(t, join(term(not), with(api.Op{Kind: kind, Value: n}, prop(1))), api.MaxProps, api.ErrRange)
		}
	}
}

// P5.2
func TestOrderOfRefusals(t *testing.T) {
	many := append(slices.Repeat(term(globally), api.MaxTempo), finally)
	// op by op: whichever comes first
	refused(t, term(and, prop(1), num), 1, api.ErrRange)
	refused(t, term(and, num, prop(1)), 1, api.ErrKind)
	refused(t, term(api.Op{Kind: api.Not, Value: 1}, num), 1, api.ErrRange)
	refused(t, term(add, prop(1), yes), 1, api.ErrKind)
	// of one op the kind comes ahead of the value
	refused(t, term(api.Op{Kind: api.Num, Value: 5000}), 1, api.ErrKind)
	refused(t, term(api.Op{Kind: api.Var, Value: -1}), 1, api.ErrKind)
	refused(t, term(not, api.Op{Kind: api.Var, Value: 1}), 1, api.ErrKind)
	// too many that look ahead at last
	refused(t, append(many, yes), 1, api.ErrSize)
	refused(t, append(many, num), 1, api.ErrKind)
	refused(t, append(many, prop(1)), 1, api.ErrRange)
	refused(t, append(many, not, api.Op{Kind: api.Yes, Value: -1}), 1, api.ErrRange)
}

// P5.2, P5.3
func TestHowManyLookAhead(t *testing.T) {
	for _, op := range looking {
		for many := range 20 {
			var l []api.Op
			want := []int{}
			for range many {
				want = append(want, len(l))
				l = append(l, op)
				if parts, _ := polish.Parts(op.Kind); parts == 2 {
					l = append(l, prop(0))
				}
			}
			l = append(l, yes)
			if many > api.MaxTempo {
				refused(t, l, 1, api.ErrSize)
				continue
			}
			if ahead, e := logic.Ahead(l, 1); !slices.Equal(ahead, want) || e != api.OK {
				t.Errorf("Ahead(%v): %v, %v, want %v", l, ahead, e, want)
			}
		}
	}
	// of all kinds together, side by side and within one another
	six := term(and, until, finally, yes, globally, no, release, next, yes, prop(0))
	taken(t, join(term(next), six), 1)
	refused(t, join(term(not, next, finally), six), 1, api.ErrSize)
	refused(t, join(term(and), six, six), 1, api.ErrSize)
	// those that do not look ahead are not counted
	taken(t, append(slices.Repeat(term(or, not, prop(0)), 19), finally, yes), 1)
}

// P5.3
func TestAhead(t *testing.T) {
	for _, c := range []struct {
		l    []api.Op
		want []int
	}{
		{term(yes), nil},
		{term(no), nil},
		{term(prop(1)), nil},
		{term(and, not, yes, or, prop(0), no), nil},
		{term(next, yes), []int{0}},
		{term(until, yes, no), []int{0}},
		{term(release, yes, no), []int{0}},
		{term(finally, yes), []int{0}},
		{term(globally, yes), []int{0}},
		{term(until, next, yes, no), []int{0, 1}},
		{term(until, yes, next, no), []int{0, 2}},
		{term(and, not, prop(0), or, globally, prop(1), finally, no), []int{4, 6}},
		{term(not, release, until, next, finally, globally, yes, no, next, prop(1)), []int{1, 2, 3, 4, 5, 8}},
	} {
		if ahead, e := logic.Ahead(c.l, 2); !slices.Equal(ahead, c.want) || e != api.OK {
			t.Errorf("Ahead(%v): %v, %v, want %v", c.l, ahead, e, c.want)
		}
	}
}

// P5.4
func TestTruths(t *testing.T) {
	const T, F = true, false
	for _, c := range []struct {
		l      []api.Op
		letter []bool
		claim  int
		want   []bool
	}{
		{term(yes), nil, 0, []bool{T}},
		{term(no), nil, 0, []bool{F}},
		{term(prop(0)), []bool{T, F}, 0, []bool{T}},
		{term(prop(1)), []bool{T, F}, 0, []bool{F}},
		{term(prop(5)), []bool{F, F, F, F, F, T}, 0, []bool{T}},
		{term(not, yes), nil, 0, []bool{F, T}},
		{term(not, no), nil, 0, []bool{T, F}},
		{term(and, no, no), nil, 0, []bool{F, F, F}},
		{term(and, no, yes), nil, 0, []bool{F, F, T}},
		{term(and, yes, no), nil, 0, []bool{F, T, F}},
		{term(and, yes, yes), nil, 0, []bool{T, T, T}},
		{term(or, no, no), nil, 0, []bool{F, F, F}},
		{term(or, no, yes), nil, 0, []bool{T, F, T}},
		{term(or, yes, no), nil, 0, []bool{T, T, F}},
		{term(or, yes, yes), nil, 0, []bool{T, T, T}},
		// the second part begins where the first one ends
		{term(and, and, yes, no, yes), nil, 0, []bool{F, F, T, F, T}},
		{term(or, and, yes, no, yes), nil, 0, []bool{T, F, T, F, T}},
		{term(and, not, no, prop(1)), []bool{F, T}, 0, []bool{T, T, F, T}},
		// as claimed, whatever the parts make
		{term(next, yes), nil, 0, []bool{F, T}},
		{term(next, no), nil, 1, []bool{T, F}},
		{term(finally, yes), nil, 0, []bool{F, T}},
		{term(finally, no), nil, 1, []bool{T, F}},
		{term(globally, yes), nil, 0, []bool{F, T}},
		{term(globally, no), nil, 1, []bool{T, F}},
		{term(until, yes, yes), nil, 0, []bool{F, T, T}},
		{term(until, no, no), nil, 1, []bool{T, F, F}},
		{term(release, yes, yes), nil, 0, []bool{F, T, T}},
		{term(release, no, no), nil, 1, []bool{T, F, F}},
		// the first one's bit is the lowest; what stands around goes by the claim
		{term(and, next, no, not, finally, yes), nil, 1, []bool{T, T, F, T, F, T}},
		{term(and, next, no, not, finally, yes), nil, 2, []bool{F, F, F, F, T, T}},
		{term(until, not, globally, no, release, yes, prop(0)), []bool{F}, 5, []bool{T, T, F, F, T, T, F}},
		{term(until, not, globally, no, release, yes, prop(0)), []bool{T}, 2, []bool{F, F, T, F, F, T, T}},
	} {
		if truths, e := logic.Truths(c.l, c.letter, c.claim); !slices.Equal(truths, c.want) || e != api.OK {
			t.Errorf("Truths(%v, %v, %d): %v, %v, want %v", c.l, c.letter, c.claim, truths, e, c.want)
		}
	}
}

// claimRefused by all faces that take one, at the first moment and at the second one.
func claimRefused(t *testing.T, l []api.Op, letter []bool, claim int) {
	t.Helper()
	if truths, e := logic.Truths(l, letter, claim); len(truths) != 0 || e != api.ErrRange {
		t.Errorf("Truths(%v, %v, %d): %v, %v", l, letter, claim, truths, e)
	}
	if meets, e := logic.Meets(l, letter, claim); meets != 0 || e != api.ErrRange {
		t.Errorf("Meets(%v, %v, %d): %d, %v", l, letter, claim, meets, e)
	}
	for _, pair := range [][2]int{{claim, 0}, {0, claim}, {claim, claim}} {
		if follows, e := logic.Follows(l, letter, pair[0], letter, pair[1]); follows || e != api.ErrRange {
			t.Errorf("Follows(%v, %v, %v): %v, %v", l, letter, pair, follows, e)
		}
	}
}

// P5.4, P5.5, P5.6
func TestClaimsThatMayNotBe(t *testing.T) {
	l := term(yes)
	for many := range api.MaxTempo + 1 {
		greatest := 1<<many - 1
		for claim := range greatest + 1 {
			checkOne(t, l, nil, claim)
			if _, e := logic.Truths(l, nil, claim); e != api.OK {
				t.Errorf("%d ops look ahead: the claim %d: %v", many, claim, e)
			}
			if _, e := logic.Follows(l, nil, claim, nil, greatest-claim); e != api.OK {
				t.Errorf("%d ops look ahead: the claims %d and %d: %v", many, claim, greatest-claim, e)
			}
		}
		for _, claim := range append(wrongNumbers, greatest+1, greatest+2, 2*greatest+2, 64, 65, 1<<40) {
			claimRefused(t, l, nil, claim)
		}
		l = append(term(not, looking[many%len(looking)]), l...)
		if op := l[1]; op == until || op == release {
			l = append(l, yes)
		}
	}
}

// P5.5
func TestFollowsOfOnePart(t *testing.T) {
	// for each kind: the part holds now, the part holds next, it holds itself next: does it hold now?
	laws := map[int]func(partNow, partNext, itselfNext bool) bool{
		api.Next:     func(partNow, partNext, itselfNext bool) bool { return partNext },
		api.Finally:  func(partNow, partNext, itselfNext bool) bool { return partNow || itselfNext },
		api.Globally: func(partNow, partNext, itselfNext bool) bool { return partNow && itselfNext },
	}
	for kind, law := range laws {
		l := term(api.Op{Kind: kind}, prop(0))
		for _, c := range letters(4) {
			want := c[0] == law(c[1], c[2], c[3])
			follows, e := logic.Follows(l, c[1:2], bits(c[0]), c[2:3], bits(c[3]))
			if follows != want || e != api.OK {
				t.Errorf("kind %d, claimed now, part now, part next, claimed next %v: %v, %v, want %v", kind, c, follows, e, want)
			}
		}
	}
}

// P5.5
func TestFollowsOfTwoParts(t *testing.T) {
	const T, F = true, false
	for _, c := range []struct {
		op                     api.Op
		first, second, itsNext bool
		holds                  bool
	}{
		{until, F, F, F, F}, {until, F, F, T, F}, {until, F, T, F, T}, {until, F, T, T, T},
		{until, T, F, F, F}, {until, T, F, T, T}, {until, T, T, F, T}, {until, T, T, T, T},
		{release, F, F, F, F}, {release, F, F, T, F}, {release, F, T, F, F}, {release, F, T, T, T},
		{release, T, F, F, F}, {release, T, F, T, F}, {release, T, T, F, T}, {release, T, T, T, T},
	} {
		for _, next := range letters(2) { // what the parts make at the next moment does not matter
			now := []bool{c.first, c.second}
			l := term(c.op, prop(0), prop(1))
			for _, claimed := range []bool{T, F} {
				follows, e := logic.Follows(l, now, bits(claimed), next, bits(c.itsNext))
				if follows != (claimed == c.holds) || e != api.OK {
					t.Errorf("%v, claimed %v, with %v now and %v, claimed %v, next: %v, %v", l, claimed, now, next, c.itsNext, follows, e)
				}
			}
		}
	}
}

// P5.5: each term that looks ahead is asked, and parts that look ahead hold as it is claimed.
func TestFollowsOfSeveral(t *testing.T) {
	const T, F = true, false
	both := term(and, next, prop(0), finally, prop(1))
	within := term(globally, or, not, prop(0), next, prop(0))
	for _, c := range []struct {
		l           []api.Op
		now, next   []bool
		claim, then int
		want        bool
	}{
		{term(yes), nil, nil, 0, 0, T},
		{term(no), []bool{T}, []bool{F}, 0, 0, T}, // claims may follow where the formula does not hold
		{both, []bool{F, F}, []bool{T, F}, 1, 0, T},
		{both, []bool{F, F}, []bool{T, F}, 1, 2, F},
		{both, []bool{F, F}, []bool{T, F}, 3, 2, T},
		{both, []bool{F, F}, []bool{T, F}, 2, 2, F},
		{both, []bool{F, F}, []bool{F, F}, 2, 3, T},
		{both, []bool{F, T}, []bool{F, F}, 2, 0, T},
		{both, []bool{F, T}, []bool{F, F}, 0, 0, F},
		{within, []bool{T}, []bool{T}, 3, 3, T},
		{within, []bool{T}, []bool{T}, 3, 2, F},
		{within, []bool{T}, []bool{F}, 0, 1, T},
		{within, []bool{T}, []bool{F}, 1, 1, F},
		{within, []bool{F}, []bool{F}, 1, 1, T},
		{term(next, next, yes), nil, nil, 3, 3, T},
		{term(next, next, yes), nil, nil, 3, 2, T},
		{term(next, next, yes), nil, nil, 3, 1, F},
		{term(next, next, yes), nil, nil, 2, 1, T},
		{term(next, next, yes), nil, nil, 2, 3, F},
		{term(until, next, prop(0), globally, prop(1)), []bool{F, F}, []bool{T, T}, 3, 5, T},
		{term(until, next, prop(0), globally, prop(1)), []bool{F, T}, []bool{F, T}, 5, 5, T},
		{term(until, next, prop(0), globally, prop(1)), []bool{F, F}, []bool{F, T}, 1, 5, F},
	} {
		follows, e := logic.Follows(c.l, c.now, c.claim, c.next, c.then)
		if follows != c.want || e != api.OK {
			t.Errorf("Follows(%v, %v, %d, %v, %d): %v, %v, want %v", c.l, c.now, c.claim, c.next, c.then, follows, e, c.want)
		}
	}
}

// P5.5
func TestLettersOfOtherLengths(t *testing.T) {
	lists := [][]api.Op{term(yes), term(finally, prop(0)), nil, term(num), term(prop(9)), append(slices.Repeat(term(next), 7), yes)}
	for a := range 9 {
		for b := range 9 {
			for _, l := range lists {
				for _, claim := range []int{0, -1, 1, 64} {
					follows, e := logic.Follows(l, make([]bool, a), claim, make([]bool, b), claim)
					if a != b && (follows || e != api.ErrSize) { // ahead of all else
						t.Errorf("Follows(%v) with %d and %d truths and the claim %d: %v, %v", l, a, b, claim, follows, e)
					}
					checkTwo(t, l, make([]bool, a), claim, make([]bool, b), claim)
				}
			}
		}
	}
}

// P5.6
func TestMeets(t *testing.T) {
	const T, F = true, false
	for _, c := range []struct {
		l      []api.Op
		letter []bool
		claim  int
		want   int
	}{
		{term(yes), nil, 0, 0},
		{term(no), []bool{T}, 0, 0},
		{term(finally, prop(0)), []bool{F}, 0, 1},
		{term(finally, prop(0)), []bool{F}, 1, 0},
		{term(finally, prop(0)), []bool{T}, 0, 1},
		{term(finally, prop(0)), []bool{T}, 1, 1},
		{term(globally, prop(0)), []bool{F}, 0, 1},
		{term(globally, prop(0)), []bool{F}, 1, 1},
		{term(globally, prop(0)), []bool{T}, 0, 0},
		{term(globally, prop(0)), []bool{T}, 1, 1},
		{term(next, prop(0)), []bool{F}, 0, 1},
		{term(next, prop(0)), []bool{F}, 1, 1},
		{term(next, prop(0)), []bool{T}, 0, 1},
		{term(next, prop(0)), []bool{T}, 1, 1},
		// the second part is what they wait for, whatever the first one makes
		{term(until, prop(0), prop(1)), []bool{F, F}, 0, 1},
		{term(until, prop(0), prop(1)), []bool{F, F}, 1, 0},
		{term(until, prop(0), prop(1)), []bool{F, T}, 0, 1},
		{term(until, prop(0), prop(1)), []bool{F, T}, 1, 1},
		{term(until, prop(0), prop(1)), []bool{T, F}, 0, 1},
		{term(until, prop(0), prop(1)), []bool{T, F}, 1, 0},
		{term(until, prop(0), prop(1)), []bool{T, T}, 0, 1},
		{term(until, prop(0), prop(1)), []bool{T, T}, 1, 1},
		{term(release, prop(0), prop(1)), []bool{F, F}, 0, 1},
		{term(release, prop(0), prop(1)), []bool{F, F}, 1, 1},
		{term(release, prop(0), prop(1)), []bool{F, T}, 0, 0},
		{term(release, prop(0), prop(1)), []bool{F, T}, 1, 1},
		{term(release, prop(0), prop(1)), []bool{T, F}, 0, 1},
		{term(release, prop(0), prop(1)), []bool{T, F}, 1, 1},
		{term(release, prop(0), prop(1)), []bool{T, T}, 0, 0},
		{term(release, prop(0), prop(1)), []bool{T, T}, 1, 1},
		// of several, the first one's bit is the lowest
		{term(and, finally, no, globally, yes), nil, 0, 1},
		{term(and, finally, no, globally, yes), nil, 1, 0},
		{term(and, finally, no, globally, yes), nil, 2, 3},
		{term(and, finally, no, globally, yes), nil, 3, 2},
		// a part that looks ahead holds as it is claimed
		{term(globally, finally, prop(0)), []bool{F}, 0, 3},
		{term(globally, finally, prop(0)), []bool{F}, 2, 0},
		{term(globally, finally, prop(0)), []bool{F}, 3, 1},
		{term(globally, finally, prop(0)), []bool{T}, 2, 2},
		{term(until, globally, prop(0), not, next, yes), []bool{T}, 1, 5},
		{term(until, globally, prop(0), not, next, yes), []bool{T}, 7, 6},
	} {
		if meets, e := logic.Meets(c.l, c.letter, c.claim); meets != c.want || e != api.OK {
			t.Errorf("Meets(%v, %v, %d): %d, %v, want %d", c.l, c.letter, c.claim, meets, e, c.want)
		}
	}
}

// P5.1 to P5.6
func TestEveryShortList(t *testing.T) {
	every := term(prop(-1), prop(0), prop(1))
	for kind := 0; kind <= api.Globally+1; kind++ {
		if kind != api.Prop {
			every = append(every, api.Op{Kind: kind})
		}
	}
	every = append(every, api.Op{Kind: api.Not, Value: 1}, api.Op{Kind: api.Yes, Value: -1}, api.Op{Kind: api.Release, Value: 1})
	lists := [][]api.Op{nil}
	for shorter := lists; len(shorter[0]) < 3; {
		var longer [][]api.Op
		for _, l := range shorter {
			for _, op := range every {
				longer = append(longer, append(slices.Clone(l), op))
			}
		}
		lists, shorter = append(lists, longer...), longer
	}
	for _, l := range lists {
		for props := range 3 {
			checkList(t, l, props)
			for _, letter := range letters(props) {
				for claim := -1; claim <= 4; claim++ {
					checkOne(t, l, letter, claim)
				}
			}
		}
		if logic.Check(l, 2) == api.OK {
			checkEveryPair(t, l, 2)
		}
	}
}

// checkEveryPair of letters and claims, those that have one bit too many too.
func checkEveryPair(t *testing.T, l []api.Op, props int) {
	t.Helper()
	most := 1 << len(aheadOf(l))
	for _, now := range letters(props) {
		for _, next := range letters(props) {
			for claim := range most + 1 {
				for later := range most + 1 {
					checkTwo(t, l, now, claim, next, later)
				}
			}
		}
	}
}

// die: numbers that look drawn, the same each time.
type die uint64

func (d *die) below(most int) int {
	*d = *d*6364136223846793005 + 1442695040888963407
	return int(uint64(*d>>33) % uint64(most))
}

// formula over so many propositions, with a slip now and then where these are wanted.
func (d *die) formula(deep, props int, slips bool) []api.Op {
	op := api.Op{Kind: api.And + d.below(api.Globally-api.And+1)}
	if deep > 3 { // great ones are wide, and few of their ops look ahead
		op.Kind = []int{api.And, api.Or, api.Not, api.Until, api.Release}[d.below(5)]
	}
	if deep <= 0 { // below 0 behind a slip that has parts
		op.Kind = api.Prop
	}
	if op.Kind == api.Prop {
		op.Value = d.below(props)
	}
	if slips && d.below(60) == 0 {
		op.Value = props
	}
	if slips && d.below(60) == 0 {
		op.Kind = d.below(api.Globally + 2)
	}
	l := term(op)
	parts, _ := polish.Parts(op.Kind)
	for range parts {
		l = append(l, d.formula(deep-1, props, slips)...)
	}
	return l
}

// letter drawn.
func (d *die) letter(props int) []bool {
	letter := make([]bool, props)
	for place := range letter {
		letter[place] = d.below(2) == 0
	}
	return letter
}

// P5.1 to P5.6
func TestDrawn(t *testing.T) {
	d := die(5)
	seen := map[api.Errno]int{}
	longest, follow := 0, 0
	for range 20000 {
		props := 1 + d.below(api.MaxProps)
		l := d.formula(1+d.below(6), props, true)
		switch d.below(60) {
		case 0:
			l = append(l, yes)
		case 1:
			l = l[:len(l)-1]
		}
		checkList(t, l, props)
		e := logic.Check(l, props)
		seen[e]++
		if e == api.OK {
			longest = max(longest, len(l))
		}
		for range 3 {
			most := 1<<min(len(aheadOf(l)), api.MaxTempo+1) + d.below(2)
			now, next, claim, later := d.letter(props), d.letter(props), d.below(most), d.below(most)
			checkOne(t, l, now, claim)
			checkTwo(t, l, now, claim, next, later)
			if yes, _ := logic.Follows(l, now, claim, next, later); yes {
				follow++
			}
		}
	}
	for _, e := range []api.Errno{api.OK, api.ErrSize, api.ErrRange, api.ErrForm, api.ErrShort, api.ErrKind} {
		if seen[e] < 20 {
			t.Errorf("too few outcomes %v were drawn: %v", e, seen)
		}
	}
	if longest < 30 || follow < 1000 {
		t.Errorf("too little was drawn: formulas of at most %d ops, %d pairs that follow", longest, follow)
	}
}

// P5.2 to P5.6
func TestLongest(t *testing.T) {
	chain := append(slices.Repeat(term(not), api.MaxOps-2), globally, yes)
	checkList(t, chain, 0)
	for claim := range 2 {
		checkOne(t, chain, nil, claim)
		checkTwo(t, chain, nil, claim, nil, 1)
	}
	refused(t, append(term(not), chain...), 0, api.ErrSize)
	// the greatest formula there is: 60 ops over six propositions, six of which look ahead
	wide := term(until, release, finally, globally, next, not, next, prop(5))
	for place := range 24 {
		wide = append(wide, term(and, or)[place%2], prop(place%6))
	}
	wide = append(wide, prop(0), not, not, prop(1))
	taken(t, wide, 6)
	if ahead, _ := logic.Ahead(wide, 6); len(wide) != api.MaxOps || len(ahead) != api.MaxTempo {
		t.Fatalf("%d ops, %v look ahead", len(wide), ahead)
	}
	d := die(3)
	for claim := range 64 {
		now, next := d.letter(6), d.letter(6)
		checkOne(t, wide, now, claim)
		for later := range 64 {
			checkTwo(t, wide, now, claim, next, later)
		}
	}
}

// holdsAt each moment of a loop that comes again and again, by the meaning of each kind: what is told of later moments is looked for moment by moment, once around is enough.
func holdsAt(l []api.Op, loop [][]bool) [][]bool {
	parts := partsOf(l)
	table := make([][]bool, len(l)) // by places, then by moments
	for place, op := range slices.Backward(l) {
		table[place] = make([]bool, len(loop))
		for moment := range loop {
			at := func(part, behind int) bool {
				return table[parts[place][part]][(moment+behind)%len(loop)]
			}
			holds := false
			switch op.Kind {
			case api.Prop:
				holds = loop[moment][op.Value]
			case api.Yes:
				holds = true
			case api.Not:
				holds = !at(0, 0)
			case api.And:
				holds = at(0, 0) && at(1, 0)
			case api.Or:
				holds = at(0, 0) || at(1, 0)
			case api.Next:
				holds = at(0, 1)
			case api.Finally:
				for behind := range loop {
					holds = holds || at(0, behind)
				}
			case api.Globally:
				holds = true
				for behind := range loop {
					holds = holds && at(0, behind)
				}
			case api.Until:
				for behind, on := 0, true; behind < len(loop) && on && !holds; behind++ {
					holds, on = at(1, behind), at(0, behind)
				}
			case api.Release:
				holds = true
				for behind, on := 0, true; behind < len(loop) && on && holds; behind++ {
					holds, on = at(1, behind), !at(0, behind)
				}
			}
			table[place][moment] = holds
		}
	}
	return table
}

// oneLine of claims around a loop: is it one that follows, in which nothing waits for ever?
func oneLine(t *testing.T, l []api.Op, loop [][]bool, claims []int) bool {
	met := 0
	for moment := range loop {
		then := (moment + 1) % len(loop)
		follows, e := logic.Follows(l, loop[moment], claims[moment], loop[then], claims[then])
		if e != api.OK {
			t.Fatalf("Follows(%v, %v, %d, %v, %d): %v", l, loop[moment], claims[moment], loop[then], claims[then], e)
		}
		if !follows {
			return false
		}
		meets, _ := logic.Meets(l, loop[moment], claims[moment])
		met |= meets
	}
	return met == 1<<len(aheadOf(l))-1
}

// P5.4, P5.5, P5.6: of each word there is just one line of claims, and it tells what holds.
func TestOneLineOfClaims(t *testing.T) {
	d := die(11)
	words := 0
	for words < 1500 {
		l := d.formula(1+d.below(3), 2, false)
		ahead := aheadOf(l)
		if len(ahead) < 1 || len(ahead) > 3 {
			continue
		}
		words++
		loop := make([][]bool, 1+d.below(3))
		for moment := range loop {
			loop[moment] = d.letter(2)
		}
		want, table := make([]int, len(loop)), holdsAt(l, loop)
		for bit, place := range ahead {
			for moment := range loop {
				want[moment] |= bits(table[place][moment]) << bit
			}
		}
		most := 1 << len(ahead)
		lines := 1
		for range loop {
			lines *= most
		}
		for line := range lines {
			claims := make([]int, len(loop))
			for moment, rest := 0, line; moment < len(loop); moment++ {
				claims[moment], rest = rest%most, rest/most
			}
			if got := oneLine(t, l, loop, claims); got != slices.Equal(claims, want) {
				t.Errorf("%v with the loop %v: the claims %v are a line: %v; those of what holds are %v", l, loop, claims, got, want)
			}
		}
		for moment, letter := range loop {
			truths, _ := logic.Truths(l, letter, want[moment])
			for place := range l {
				if truths[place] != table[place][moment] {
					t.Errorf("%v with the loop %v at moment %d: %v", l, loop, moment, truths)
				}
			}
		}
	}
}

// What is handed in stays as it is, its spare room too.
func TestListsHandedInStay(t *testing.T) {
	room := term(until, and, prop(0), not, next, prop(1), finally, globally, no, yes, release)
	now, next := []bool{true, false, true, true, false, false, true}, []bool{false, true, true, false, true, false, true}
	roomBefore, nowBefore, nextBefore := slices.Clone(room), slices.Clone(now), slices.Clone(next)
	for many := range len(room) + 1 {
		for props := range len(now) + 1 {
			for claim := range 17 {
				logic.Check(room[:many], props)
				logic.Ahead(room[:many], props)
				logic.Truths(room[:many], now[:props], claim)
				logic.Follows(room[:many], now[:props], claim, next[:props], 16-claim)
				logic.Meets(room[:many], now[:props], claim)
			}
			if !slices.Equal(room, roomBefore) || !slices.Equal(now, nowBefore) || !slices.Equal(next, nextBefore) {
				t.Fatalf("%d ops and %d truths handed in: %v, %v and %v are left", many, props, room, now, next)
			}
		}
	}
}

// Answers are new memory, spare room too: what is written there shows in no argument and in no other answer.
func TestAnswersAreNew(t *testing.T) {
	l, letter := term(until, next, prop(0), or, finally, prop(1), not, prop(0)), []bool{true, false}
	before, letterBefore := slices.Clone(l), slices.Clone(letter)
	wantAhead, _ := logic.Ahead(l, 2)
	wantTruths, _ := logic.Truths(l, letter, 5)
	ahead, _ := logic.Ahead(l, 2)
	truths, _ := logic.Truths(l, letter, 5)
	keptAhead, keptTruths := slices.Clone(wantAhead), slices.Clone(wantTruths)
	for place := range ahead[:cap(ahead)] {
		ahead[:cap(ahead)][place] = -7
	}
	for place := range truths[:cap(truths)] {
		truths[:cap(truths)][place] = !truths[:cap(truths)][place]
	}
	if !reflect.DeepEqual(l, before) || !reflect.DeepEqual(letter, letterBefore) {
		t.Errorf("%v and %v are left", l, letter)
	}
	if !slices.Equal(wantAhead, keptAhead) || !slices.Equal(wantTruths, keptTruths) {
		t.Errorf("other answers became %v and %v", wantAhead, wantTruths)
	}
	again, _ := logic.Ahead(l, 2)
	truthsAgain, _ := logic.Truths(l, letter, 5)
	if !slices.Equal(again, keptAhead) || !slices.Equal(truthsAgain, keptTruths) {
		t.Errorf("later answers became %v and %v", again, truthsAgain)
	}
}
