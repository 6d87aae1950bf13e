package polish_test

import (
	"math"
	"slices"
	"testing"

	"foretell/api"
	"foretell/polish"
)

// partsByKind is written apart from the program's own table, so that a slip in one of them shows.
var partsByKind = map[int]int{
	api.Num: 0, api.Var: 0, api.Yes: 0, api.No: 0, api.Prop: 0,
	api.Not: 1, api.Next: 1, api.Finally: 1, api.Globally: 1,
	api.Add: 2, api.Sub: 2, api.Mul: 2, api.Eq: 2, api.Lt: 2, api.And: 2, api.Or: 2, api.Until: 2, api.Release: 2,
}

var wrongKinds = []int{0, -1, api.Globally + 1, 255, 256 + api.Num, 1<<32 + api.Num, math.MinInt, math.MaxInt}

// ops of these kinds, each with a value of its own, so that mixed-up ops show.
func ops(kinds ...int) []api.Op {
	l := make([]api.Op, len(kinds))
	for i, k := range kinds {
		l[i] = api.Op{Kind: k, Value: 100 + i}
	}
	return l
}

// chain of so many ops, each of which but the last one is the part of the one ahead.
func chain(many int) []api.Op {
	return append(slices.Repeat(ops(api.Not), many-1), api.Op{Kind: api.Yes})
}

// endOf what begins at a place, found by counting how many parts are still open.
func endOf(l []api.Op, place int) (int, api.Errno) {
	for open := 1; open > 0; place++ {
		if place == len(l) {
			return 0, api.ErrShort
		}
		n, ok := partsByKind[l[place].Kind]
		if !ok {
			return 0, api.ErrKind
		}
		open += n - 1
	}
	return place, api.OK
}

// endsOf a list, by the document's words.
func endsOf(l []api.Op) ([]int, api.Errno) {
	if len(l) > api.MaxOps {
		return nil, api.ErrSize
	}
	if end, e := endOf(l, 0); e != api.OK {
		return nil, e
	} else if end < len(l) {
		return nil, api.ErrForm
	}
	var ends []int
	for place := range l {
		end, _ := endOf(l, place)
		ends = append(ends, end)
	}
	return ends, api.OK
}

// depthOf a term: at most so many ops stand around one place, itself among them.
func depthOf(ends []int) int {
	deepest := 0
	for place := range ends {
		around := 0
		for ahead := range place + 1 {
			if ends[ahead] > place {
				around++
			}
		}
		deepest = max(deepest, around)
	}
	return deepest
}

// splitOf a term: whatever begins where the first op, or the part ahead, ends.
func splitOf(l []api.Op, ends []int) [][]api.Op {
	var parts [][]api.Op
	for place := 1; place < len(l); place = ends[place] {
		parts = append(parts, l[place:ends[place]])
	}
	return parts
}

// check all three faces at one list.
func check(t *testing.T, l []api.Op) {
	t.Helper()
	wantEnds, wantErr := endsOf(l)
	ends, e := polish.Ends(l)
	if !slices.Equal(ends, wantEnds) || e != wantErr {
		t.Errorf("Ends(%v): %v, %v, want %v, %v", l, ends, e, wantEnds, wantErr)
	}
	parts, e := polish.Split(l)
	wantParts := splitOf(l[:len(wantEnds)], wantEnds)
	if !slices.EqualFunc(parts, wantParts, slices.Equal) || e != wantErr {
		t.Errorf("Split(%v): %v, %v, want %v, %v", l, parts, e, wantParts, wantErr)
	}
	depth, e := polish.Depth(l)
	if wantDepth := depthOf(wantEnds); depth != wantDepth || e != wantErr {
		t.Errorf("Depth(%v): %v, %v, want %v, %v", l, depth, e, wantDepth, wantErr)
	}
}

// everyList of at most so many of the kinds.
func everyList(kinds []int, most int, do func([]api.Op)) {
	var grow func(l []int)
	grow = func(l []int) {
		do(ops(l...))
		if len(l) == most {
			return
		}
		for _, k := range kinds {
			grow(append(slices.Clone(l), k))
		}
	}
	grow(nil)
}

// P1.1
func TestPartsOfEachKind(t *testing.T) {
	for kind := api.Num; kind <= api.Globally; kind++ {
		if n, e := polish.Parts(kind); n != partsByKind[kind] || e != api.OK {
			t.Errorf("Parts(%d): %d, %v, want %d", kind, n, e, partsByKind[kind])
		}
	}
}

// P1.1
func TestPartsOfNoKind(t *testing.T) {
	for _, kind := range wrongKinds {
		if n, e := polish.Parts(kind); n != 0 || e != api.ErrKind {
			t.Errorf("Parts(%d): %d, %v, want 0, %v", kind, n, e, api.ErrKind)
		}
	}
}

// P1.2
func TestEnds(t *testing.T) {
	for _, c := range []struct {
		kinds, want []int
	}{
		{[]int{api.Add, api.Num, api.Mul, api.Var, api.Num}, []int{5, 2, 5, 4, 5}},
		{[]int{api.Num}, []int{1}},
		{[]int{api.Prop}, []int{1}},
		{[]int{api.Not, api.Yes}, []int{2, 2}},
		{[]int{api.Add, api.Mul, api.Num, api.Var, api.Num}, []int{5, 4, 3, 4, 5}},
		{[]int{api.Until, api.Globally, api.Prop, api.Release, api.Yes, api.Next, api.No}, []int{7, 3, 3, 7, 5, 7, 7}},
		// types are no matter of this layer
		{[]int{api.Add, api.Yes, api.Finally, api.Num}, []int{4, 2, 4, 4}},
	} {
		if ends, e := polish.Ends(ops(c.kinds...)); !slices.Equal(ends, c.want) || e != api.OK {
			t.Errorf("Ends(%v): %v, %v, want %v", c.kinds, ends, e, c.want)
		}
	}
}

// refusals: lists that are no term, and why.
var refusals = []struct {
	kinds []int
	want  api.Errno
}{
	{nil, api.ErrShort},
	{[]int{}, api.ErrShort},
	{[]int{api.Not}, api.ErrShort},
	{[]int{api.Until}, api.ErrShort},
	{[]int{api.Until, api.Prop}, api.ErrShort},
	{[]int{api.And, api.Or, api.Yes, api.No}, api.ErrShort},
	{[]int{0}, api.ErrKind},
	{[]int{api.Globally + 1}, api.ErrKind},
	{[]int{-1}, api.ErrKind},
	{[]int{api.Not, 0}, api.ErrKind},
	{[]int{api.Yes, api.Yes}, api.ErrForm},
	{[]int{api.Add, api.Num, api.Num, api.Num}, api.ErrForm},
	// a part that is missing behind a wrong kind is met later than the kind
	{[]int{api.And, 0}, api.ErrKind},
	{[]int{api.And, api.Or, 19}, api.ErrKind},
	{[]int{0, api.Not}, api.ErrKind},
	// a wrong kind within the term comes ahead of ops behind it; behind the term it is no matter
	{[]int{0, api.Yes}, api.ErrKind},
	{[]int{api.Not, 0, api.Yes}, api.ErrKind},
	{[]int{api.Yes, 0}, api.ErrForm},
	{[]int{api.Yes, math.MaxInt}, api.ErrForm},
	{[]int{api.Yes, api.Not}, api.ErrForm},
}

// P1.2, P1.3, P1.4
func TestRefusals(t *testing.T) {
	for _, c := range refusals {
		l := ops(c.kinds...)
		if ends, e := polish.Ends(l); len(ends) != 0 || e != c.want {
			t.Errorf("Ends(%v): %v, %v, want %v", c.kinds, ends, e, c.want)
		}
		if parts, e := polish.Split(l); len(parts) != 0 || e != c.want {
			t.Errorf("Split(%v): %v, %v, want %v", c.kinds, parts, e, c.want)
		}
		if depth, e := polish.Depth(l); depth != 0 || e != c.want {
			t.Errorf("Depth(%v): %v, %v, want %v", c.kinds, depth, e, c.want)
		}
	}
}

// P1.2, P1.3, P1.4
func TestWrongKindsAnywhere(t *testing.T) {
	for _, kind := range wrongKinds {
		check(t, ops(kind))
		check(t, ops(api.Add, kind, api.Num))
		check(t, ops(api.Add, api.Num, kind))
		check(t, ops(api.Num, kind))
	}
}

// P1.2, P1.3, P1.4
func TestMaxOps(t *testing.T) {
	check(t, chain(api.MaxOps-1))
	check(t, chain(api.MaxOps))
	if depth, e := polish.Depth(chain(api.MaxOps)); depth != api.MaxOps || e != api.OK {
		t.Errorf("depth of the longest chain: %d, %v", depth, e)
	}
	full := chain(api.MaxOps)
	for _, l := range [][]api.Op{
		chain(api.MaxOps + 1),
		append(ops(0), full...),                       // a wrong kind
		slices.Repeat(ops(api.Not), api.MaxOps+1),     // too short
		slices.Repeat(ops(api.Yes), api.MaxOps+1),     // ops behind
		slices.Repeat(ops(api.Until), 100*api.MaxOps), // far too many
	} {
		check(t, l)
		if _, e := polish.Ends(l); e != api.ErrSize {
			t.Errorf("%d ops: %v, want %v", len(l), e, api.ErrSize)
		}
	}
	check(t, slices.Repeat(ops(api.And), api.MaxOps))
	check(t, slices.Repeat(ops(api.Yes), api.MaxOps))
}

// P1.2, P1.3, P1.4
func TestEveryShortList(t *testing.T) {
	var kinds []int
	for kind := api.Num - 1; kind <= api.Globally+1; kind++ {
		kinds = append(kinds, kind)
	}
	everyList(kinds, 3, func(l []api.Op) { check(t, l) })
	everyList([]int{0, api.Var, api.Next, api.Until}, 7, func(l []api.Op) { check(t, l) })
}

// P1.3
func TestSplit(t *testing.T) {
	for _, c := range []struct {
		kinds []int
		cuts  []int // where a part begins, and the end
	}{
		{[]int{api.Num}, []int{1}},
		{[]int{api.Not, api.Yes}, []int{1, 2}},
		{[]int{api.And, api.Yes, api.Not, api.No}, []int{1, 2, 4}},
		{[]int{api.And, api.Not, api.No, api.Yes}, []int{1, 3, 4}},
		{[]int{api.Globally, api.Until, api.Prop, api.Finally, api.Prop}, []int{1, 5}},
	} {
		l := ops(c.kinds...)
		parts, e := polish.Split(l)
		if e != api.OK || len(parts) != len(c.cuts)-1 {
			t.Errorf("Split(%v): %v, %v", c.kinds, parts, e)
			continue
		}
		for i, part := range parts {
			if want := l[c.cuts[i]:c.cuts[i+1]]; !slices.Equal(part, want) {
				t.Errorf("Split(%v): part %d is %v, want %v", c.kinds, i, part, want)
			}
		}
	}
}

// P1.4
func TestDepth(t *testing.T) {
	for _, c := range []struct {
		kinds []int
		want  int
	}{
		{[]int{api.Add, api.Num, api.Mul, api.Var, api.Num}, 3},
		{[]int{api.Yes}, 1},
		{[]int{api.Next, api.Prop}, 2},
		{[]int{api.Or, api.Yes, api.No}, 2},
		{[]int{api.Or, api.Not, api.Not, api.No, api.Not, api.Yes}, 4},
		{[]int{api.Or, api.Not, api.Yes, api.Not, api.Not, api.No}, 4},
	} {
		if depth, e := polish.Depth(ops(c.kinds...)); depth != c.want || e != api.OK {
			t.Errorf("Depth(%v): %d, %v, want %d", c.kinds, depth, e, c.want)
		}
	}
}

// What is handed in stays as it is, its spare room too.
func TestListsHandedInStay(t *testing.T) {
	room := append(ops(api.And, api.Not, api.Yes, api.No), ops(api.Until, api.Prop, api.Prop)...)
	before := slices.Clone(room)
	for many := range len(room) + 1 {
		polish.Ends(room[:many])
		polish.Split(room[:many])
		polish.Depth(room[:many])
		if !slices.Equal(room, before) {
			t.Fatalf("the first %d ops handed in: %v is left of %v", many, room, before)
		}
	}
}

// scribble over a list and its spare room.
func scribble[T any](l []T, with T) {
	l = l[:cap(l)]
	for i := range l {
		l[i] = with
	}
}

// What comes out shares nothing with what was handed in, nor with other answers, nor part with part.
func TestAnswersAreNewMemory(t *testing.T) {
	l := ops(api.And, api.Not, api.Yes, api.Or, api.No, api.Yes)
	before := slices.Clone(l)
	first, _ := polish.Split(l)
	again, _ := polish.Split(l)
	if len(first) != 2 || len(again) != 2 {
		t.Fatalf("Split(%v): %v, %v", l, first, again)
	}
	scribble(first[0], api.Op{Kind: -5, Value: -5})
	if !slices.Equal(first[1], before[3:]) {
		t.Errorf("the parts share memory: the second one is %v", first[1])
	}
	scribble(first[1], api.Op{Kind: -6, Value: -6})
	scribble(first, nil)
	if !slices.Equal(l, before) {
		t.Errorf("the parts share memory with what was handed in: %v", l)
	}
	if !slices.Equal(again[0], before[1:3]) || !slices.Equal(again[1], before[3:]) {
		t.Errorf("two answers share memory: %v", again)
	}
	ends, _ := polish.Ends(l)
	want := slices.Clone(ends)
	scribble(ends, -7)
	if ends, _ = polish.Ends(l); !slices.Equal(ends, want) {
		t.Errorf("Ends: %v, then %v", want, ends)
	}
}
