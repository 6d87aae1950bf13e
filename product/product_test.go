package product_test

import (
	"math"
	"reflect"
	"slices"
	"testing"

	"foretell/api"
	"foretell/logic"
	"foretell/model"
	"foretell/polish"
	"foretell/product"
	"foretell/step"
	"foretell/word"
)

func num(n int) api.Op { return api.Op{Kind: api.Num, Value: n} }

func variable(place int) api.Op { return api.Op{Kind: api.Var, Value: place} }

func prop(place int) api.Op { return api.Op{Kind: api.Prop, Value: place} }

var (
	add, sub, mul     = api.Op{Kind: api.Add}, api.Op{Kind: api.Sub}, api.Op{Kind: api.Mul}
	eq, lt            = api.Op{Kind: api.Eq}, api.Op{Kind: api.Lt}
	and, or, not      = api.Op{Kind: api.And}, api.Op{Kind: api.Or}, api.Op{Kind: api.Not}
	yes, no           = api.Op{Kind: api.Yes}, api.Op{Kind: api.No}
	next              = api.Op{Kind: api.Next}
	until, release    = api.Op{Kind: api.Until}, api.Op{Kind: api.Release}
	finally, globally = api.Op{Kind: api.Finally}, api.Op{Kind: api.Globally}
	wrongNumbers      = []int{math.MinInt, math.MinInt + 1, -1 << 32, -64, -2, -1, 1 << 32, 1 << 62, math.MaxInt - 1, math.MaxInt}
)

// term of these ops.
func term(l ...api.Op) []api.Op { return l }

// terms, one behind the other.
func terms(l ...[]api.Op) [][]api.Op { return l }

// from Low to High, beginning at Low.
func from(name string, low, high int) api.Variable {
	return api.Variable{Name: name, Low: low, High: high, Init: low}
}

// when a guard holds.
func when(guard []api.Op, sets ...api.Set) api.Rule { return api.Rule{Guard: guard, Sets: sets} }

// set a variable to what these ops make.
func set(place int, l ...api.Op) api.Set { return api.Set{Var: place, Value: l} }

// to a value of the first variable, from wherever it is.
func to(n int) api.Rule { return when(term(yes), set(0, num(n))) }

// line of one variable x from 0 on, with so many states, whose codes are its values.
func line(many int, l ...api.Rule) api.Model {
	return api.Model{Vars: []api.Variable{from("x", 0, many-1)}, Rules: l}
}

// still task: there is one state, and a proposition holds for ever, and another never does.
func still(formula ...api.Op) api.Task {
	return api.Task{Props: terms(term(yes), term(no)), Formula: formula}
}

// swing task: x is 0, 1, 0, 1 and so on; the proposition is that it is 1.
func swing(formula ...api.Op) api.Task {
	return api.Task{Model: line(2, when(term(yes), set(0, sub, num(1), variable(0)))), Props: terms(term(eq, variable(0), num(1))), Formula: formula}
}

// spots as pairs of numbers: state, claim, state, claim ..
func spots(l ...int) []api.Spot {
	made := []api.Spot{}
	for i := 0; i < len(l); i += 2 {
		made = append(made, api.Spot{State: l[i], Claim: l[i+1]})
	}
	return made
}

// sameGraph: whether a list without elements is nil does not count.
func sameGraph(a, b api.Graph) bool {
	return slices.Equal(a.Spots, b.Spots) && a.Init == b.Init && slices.EqualFunc(a.Next, b.Next, slices.Equal[[]int]) && slices.Equal(a.Sets, b.Sets) && a.Many == b.Many
}

// begin at just these.
func begin(t *testing.T, task api.Task, want []api.Spot) {
	t.Helper()
	if l, e := product.Begin(task); !slices.Equal(l, want) || e != api.OK {
		t.Errorf("Begin(%v): %v, %v, want %v", task, l, e, want)
	}
}

// behind a spot: just these.
func behind(t *testing.T, task api.Task, s api.Spot, want []api.Spot) {
	t.Helper()
	if l, e := product.Behind(task, s); !slices.Equal(l, want) || e != api.OK {
		t.Errorf("Behind(%v, %v): %v, %v, want %v", task, s, l, e, want)
	}
}

// explore: just this graph.
func explore(t *testing.T, task api.Task, want api.Graph) {
	t.Helper()
	if g, e := product.Explore(task); !sameGraph(g, want) || e != api.OK {
		t.Errorf("Explore(%v): %v, %v, want %v", task, g, e, want)
	}
}

// noSpot of a task.
func noSpot(t *testing.T, task api.Task, s api.Spot) {
	t.Helper()
	if l, e := product.Behind(task, s); len(l) != 0 || e != api.ErrState {
		t.Errorf("Behind(%v, %v): %v, %v, want %v", task, s, l, e, api.ErrState)
	}
}

// full: the task is right, but its graph has too many spots.
func full(t *testing.T, task api.Task) {
	t.Helper()
	if e := product.Check(task); e != api.OK {
		t.Errorf("Check(%v): %v", task, e)
	}
	if g, e := product.Explore(task); !sameGraph(g, api.Graph{}) || e != api.ErrFull {
		t.Errorf("Explore(%v): %d spots, %v, want %v", task, len(g.Spots), e, api.ErrFull)
	}
}

// refused by every face with the same error, whatever else is wrong.
func refused(t *testing.T, task api.Task, want api.Errno) {
	t.Helper()
	if e := product.Check(task); e != want {
		t.Errorf("Check(%v): %v, want %v", task, e, want)
	}
	if l, e := product.Begin(task); len(l) != 0 || e != want {
		t.Errorf("Begin(%v): %v, %v, want %v", task, l, e, want)
	}
	for _, s := range spots(0, 0, 1, 1, -1, 0, 0, -1, 5000, 64, math.MaxInt, math.MinInt, math.MinInt, math.MaxInt) {
		if l, e := product.Behind(task, s); len(l) != 0 || e != want {
			t.Errorf("Behind(%v, %v): %v, %v, want %v", task, s, l, e, want)
		}
	}
	if g, e := product.Explore(task); !sameGraph(g, api.Graph{}) || e != want {
		t.Errorf("Explore(%v): %v, %v, want %v", task, g, e, want)
	}
}

// wrongModels, with what model's Check says of them.
func wrongModels() map[api.Errno][]api.Model {
	rule := when(term(yes))
	return map[api.Errno][]api.Model{
		api.ErrName:  {{Vars: []api.Variable{from("yes", 0, 1)}}, {Vars: []api.Variable{from("", 0, 1)}}},
		api.ErrTwice: {{Vars: []api.Variable{from("x", 0, 1), from("x", 0, 1)}}, line(2, when(term(yes), set(0, num(1)), set(0, num(1))))},
		api.ErrRange: {{Vars: []api.Variable{from("x", 1, 0)}}, {Vars: []api.Variable{{Name: "x", High: 2, Init: 3}}}, {Vars: []api.Variable{from("x", math.MinInt, math.MaxInt)}}, line(2, when(term(yes), set(1, num(1))))},
		api.ErrSize:  {line(65), {Vars: make([]api.Variable, 7)}, {Vars: []api.Variable{from("x", 0, 63), from("y", 0, 63), from("z", 0, 1)}}, line(2, slices.Repeat([]api.Rule{rule}, 13)...)},
		api.ErrShort: {line(2, api.Rule{}), line(2, rule, when(term(yes), set(0)))},
		api.ErrType:  {line(2, when(term(num(1)))), line(2, when(term(no), set(0, yes)))},
		api.ErrForm:  {line(2, rule, when(term(yes, yes)))},
		api.ErrKind:  {line(2, when(term(prop(0))))},
	}
}

// wrongProps for a line, with what model's Props says of them.
func wrongProps() map[api.Errno][][][]api.Op {
	return map[api.Errno][][][]api.Op{
		api.ErrSize:  {slices.Repeat(terms(term(yes)), 7), slices.Repeat(terms(nil), 7), terms(term(yes), slices.Repeat(term(not), 61))},
		api.ErrType:  {terms(term(num(1))), terms(term(yes), term(variable(0))), terms(term(not, num(1)))},
		api.ErrShort: {terms(nil), terms(term(yes), term(not)), terms(term(yes), nil, term(num(1)))},
		api.ErrForm:  {terms(term(yes, yes))},
		api.ErrKind:  {terms(term(prop(0))), terms(term(yes), term(finally, yes)), terms(term(api.Op{}))},
		api.ErrRange: {terms(term(eq, variable(1), num(1))), terms(term(eq, num(1001), num(1))), terms(term(api.Op{Kind: api.Yes, Value: 1}))},
	}
}

// wrongFormulas over two propositions, with what logic's Check says of them.
func wrongFormulas() map[api.Errno][][]api.Op {
	return map[api.Errno][][]api.Op{
		api.ErrShort: {nil, term(until, yes), term(finally)},
		api.ErrForm:  {term(yes, yes), term(next, prop(0), prop(1))},
		api.ErrKind:  {term(num(1)), term(variable(0)), term(eq, num(1), num(1)), term(finally, api.Op{Kind: 19}), term(api.Op{Kind: -1})},
		api.ErrRange: {term(prop(2)), term(prop(-1)), term(finally, prop(math.MaxInt)), term(api.Op{Kind: api.Not, Value: 1}, yes)},
		api.ErrSize:  {append(slices.Repeat(term(next), api.MaxTempo+1), yes), slices.Repeat(term(not), api.MaxOps+1)},
	}
}

// P7.1: tasks that are right.
func TestRightTasks(t *testing.T) {
	for _, task := range []api.Task{
		{Formula: term(yes)},
		{Props: [][]api.Op{}, Formula: term(globally, no)},
		still(until, prop(0), prop(1)),
		swing(release, prop(0), next, prop(0)),
		{Model: line(64, to(63)), Props: slices.Repeat(terms(term(no)), api.MaxProps), Formula: term(prop(5))},
		{Formula: append(slices.Repeat(term(next), api.MaxTempo), yes)},
		{Formula: append(slices.Repeat(term(not), api.MaxOps-1), yes)},
	} {
		if e := product.Check(task); e != api.OK {
			t.Errorf("Check(%v): %v", task, e)
		}
	}
}

// P7.1: the Model, then the Props, then the Formula; and ahead of all else.
func TestWrongTasks(t *testing.T) {
	refused(t, api.Task{}, api.ErrShort)
	two := terms(term(yes), term(eq, variable(0), num(1)))
	for e, models := range wrongModels() {
		for _, m := range models {
			refused(t, api.Task{Model: m, Props: two, Formula: term(yes)}, e)
			refused(t, api.Task{Model: m, Props: two}, e)
			refused(t, api.Task{Model: m, Props: slices.Repeat(terms(nil), 7), Formula: term(num(1), num(2))}, e)
			refused(t, api.Task{Model: m, Props: terms(term(num(1))), Formula: term(prop(9))}, e)
		}
	}
	for e, lists := range wrongProps() {
		for _, l := range lists {
			refused(t, api.Task{Model: line(2), Props: l, Formula: term(yes)}, e)
			for _, formulas := range wrongFormulas() {
				for _, f := range formulas {
					refused(t, api.Task{Model: line(2), Props: l, Formula: f}, e)
				}
			}
		}
	}
	for e, formulas := range wrongFormulas() {
		for _, f := range formulas {
			refused(t, api.Task{Model: line(2), Props: two, Formula: f}, e)
		}
	}
}

// P7.1: the formula has just the propositions of the task.
func TestHowManyPropositions(t *testing.T) {
	for many := range api.MaxProps + 1 {
		for place := range api.MaxProps + 2 {
			task := api.Task{Props: slices.Repeat(terms(term(no)), many), Formula: term(prop(place))}
			if place >= many {
				refused(t, task, api.ErrRange)
			} else {
				explore(t, task, api.Graph{Spots: spots(0, 0), Init: 1, Next: [][]int{{0}}, Sets: []int{0}})
			}
		}
	}
}

// P7.2
func TestBegin(t *testing.T) {
	// what looks not ahead has one claim, which has no bit
	begin(t, still(yes), nil)
	begin(t, still(no), spots(0, 0))
	begin(t, still(prop(0)), nil)
	begin(t, still(prop(1)), spots(0, 0))
	begin(t, still(not, prop(0)), spots(0, 0))
	// what looks ahead goes by the claim, though nothing could follow
	begin(t, api.Task{Formula: term(next, yes)}, spots(0, 0))
	begin(t, still(next, prop(1)), spots(0, 0))
	begin(t, still(not, finally, prop(0)), spots(0, 1))
	begin(t, still(not, globally, prop(1)), spots(0, 1))
	begin(t, still(until, prop(0), prop(0)), spots(0, 0))
	begin(t, still(not, release, prop(0), prop(0)), spots(0, 1))
	begin(t, still(and, no, finally, no), spots(0, 0, 0, 1))
	begin(t, still(or, yes, finally, no), nil)
	// rising; the first op's bit is the lowest
	begin(t, still(and, next, no, finally, no), spots(0, 0, 0, 1, 0, 2))
	begin(t, still(or, next, no, finally, no), spots(0, 0))
	begin(t, still(and, not, next, no, finally, no), spots(0, 0, 0, 1, 0, 3))
	begin(t, still(and, next, no, not, finally, no), spots(0, 0, 0, 2, 0, 3))
	begin(t, still(globally, finally, prop(0)), spots(0, 0, 0, 2))
	begin(t, still(until, next, yes, globally, no), spots(0, 0, 0, 2, 0, 4, 0, 6))
	// at the first state, and by its letter
	m := api.Model{Vars: []api.Variable{{Name: "x", Low: 1, High: 3, Init: 2}, {Name: "y", High: 1, Init: 1}}, Rules: []api.Rule{to(1)}}
	props := terms(term(eq, variable(0), num(1)), term(eq, variable(0), num(2)))
	begin(t, api.Task{Model: m, Props: props, Formula: term(prop(1))}, nil)
	begin(t, api.Task{Model: m, Props: props, Formula: term(prop(0))}, spots(3, 0))
	begin(t, api.Task{Model: m, Props: props, Formula: term(or, prop(0), finally, prop(1))}, spots(3, 0))
	begin(t, api.Task{Model: m, Props: props, Formula: term(and, prop(1), finally, prop(1))}, spots(3, 0))
	begin(t, api.Task{Model: m, Props: props, Formula: term(and, prop(0), finally, prop(1))}, spots(3, 0, 3, 1))
	// as many as there may be
	all := []api.Spot{}
	for claim := range 64 {
		all = append(all, api.Spot{Claim: claim})
	}
	most := still(slices.Concat(term(and, no), slices.Repeat(term(next), api.MaxTempo), term(yes))...)
	begin(t, most, all)
	most.Formula = slices.Concat(slices.Repeat(term(next), api.MaxTempo), term(yes))
	begin(t, most, slices.DeleteFunc(all, func(s api.Spot) bool { return s.Claim%2 == 1 }))
}

// P7.3: each kind that looks ahead, its answers written out from the document.
func TestBehind(t *testing.T) {
	for _, c := range []struct {
		formula []api.Op
		claim   int
		want    []api.Spot
	}{
		{term(prop(1)), 0, spots(0, 0)},
		// Next is told by its part at the next moment; what is claimed there is free
		{term(next, prop(0)), 0, nil},
		{term(next, prop(0)), 1, spots(0, 0, 0, 1)},
		{term(next, prop(1)), 0, spots(0, 0, 0, 1)},
		{term(next, prop(1)), 1, nil},
		// Next of what looks ahead: the outer bit is told by the inner one behind it
		{term(next, next, prop(0)), 0, nil},
		{term(next, next, prop(0)), 1, nil},
		{term(next, next, prop(0)), 2, spots(0, 0, 0, 1)},
		{term(next, next, prop(0)), 3, spots(0, 2, 0, 3)},
		// Finally, Globally, Until and Release: now, or by themselves behind it
		{term(finally, prop(1)), 0, spots(0, 0)},
		{term(finally, prop(1)), 1, spots(0, 1)},
		{term(finally, prop(0)), 0, nil},
		{term(finally, prop(0)), 1, spots(0, 0, 0, 1)},
		{term(globally, prop(0)), 0, spots(0, 0)},
		{term(globally, prop(0)), 1, spots(0, 1)},
		{term(globally, prop(1)), 0, spots(0, 0, 0, 1)},
		{term(globally, prop(1)), 1, nil},
		{term(until, prop(0), prop(1)), 0, spots(0, 0)},
		{term(until, prop(0), prop(1)), 1, spots(0, 1)},
		{term(until, prop(1), prop(0)), 0, nil},
		{term(until, prop(1), prop(0)), 1, spots(0, 0, 0, 1)},
		{term(until, prop(1), prop(1)), 0, spots(0, 0, 0, 1)},
		{term(until, prop(1), prop(1)), 1, nil},
		{term(release, prop(1), prop(0)), 0, spots(0, 0)},
		{term(release, prop(1), prop(0)), 1, spots(0, 1)},
		{term(release, prop(0), prop(1)), 0, spots(0, 0, 0, 1)},
		{term(release, prop(0), prop(1)), 1, nil},
		{term(release, prop(0), prop(0)), 0, nil},
		{term(release, prop(0), prop(0)), 1, spots(0, 0, 0, 1)},
		// two of them
		{term(and, finally, prop(1), globally, prop(0)), 2, spots(0, 2)},
		{term(and, finally, prop(0), globally, prop(0)), 3, spots(0, 2, 0, 3)},
		{term(and, finally, prop(1), globally, prop(1)), 1, spots(0, 1, 0, 3)},
		{term(globally, finally, prop(0)), 3, spots(0, 1, 0, 3)},
		{term(globally, finally, prop(0)), 2, spots(0, 0, 0, 2)},
		{term(globally, finally, prop(0)), 1, nil},
	} {
		behind(t, still(c.formula...), api.Spot{Claim: c.claim}, c.want)
	}
}

// P7.3: each next state, rising, each claim that follows with both letters, rising; from whatever spot, reached or not.
func TestBehindStates(t *testing.T) {
	task := api.Task{Model: line(9, to(7), to(2), to(5), to(2)), Props: terms(term(lt, variable(0), num(5)), term(eq, variable(0), num(5))), Formula: term(no)}
	behind(t, task, api.Spot{State: 8}, spots(2, 0, 5, 0, 7, 0))
	task.Formula = term(next, prop(0))
	behind(t, task, api.Spot{}, spots(5, 0, 5, 1, 7, 0, 7, 1))
	behind(t, task, api.Spot{Claim: 1}, spots(2, 0, 2, 1))
	task.Formula = term(next, prop(1))
	behind(t, task, api.Spot{State: 3}, spots(2, 0, 2, 1, 7, 0, 7, 1))
	behind(t, task, api.Spot{State: 3, Claim: 1}, spots(5, 0, 5, 1))
	task.Formula = term(finally, prop(1))
	behind(t, task, api.Spot{State: 4}, spots(2, 0, 5, 0, 7, 0))
	behind(t, task, api.Spot{State: 4, Claim: 1}, spots(2, 1, 5, 1, 7, 1))
	behind(t, task, api.Spot{State: 5}, nil)
	behind(t, task, api.Spot{State: 5, Claim: 1}, spots(2, 0, 2, 1, 5, 0, 5, 1, 7, 0, 7, 1))
	// where no rule can be done, the state stays
	task.Model.Rules = []api.Rule{to(9), when(term(lt, variable(0), num(3)), set(0, add, variable(0), num(1)))}
	behind(t, task, api.Spot{State: 2}, spots(3, 0))
	behind(t, task, api.Spot{State: 3, Claim: 1}, spots(3, 1))
	behind(t, task, api.Spot{State: 8, Claim: 1}, spots(8, 1))
	// the letters go by the propositions: one that Eval refuses does not hold
	over := slices.Concat(term(lt, num(0), add, mul, num(1000), num(1000)), term(variable(0)))
	task = api.Task{Model: line(2, to(0), to(1)), Props: terms(over), Formula: term(next, prop(0))}
	behind(t, task, api.Spot{}, spots(1, 0, 1, 1))
	behind(t, task, api.Spot{Claim: 1}, spots(0, 0, 0, 1))
}

// P7.3: what is no spot of the task.
func TestNoSpot(t *testing.T) {
	for _, m := range []api.Model{{}, line(1), line(2, to(1)), line(64), {Vars: []api.Variable{from("x", 0, 63), from("y", 0, 63)}}} {
		many, _ := model.Count(m)
		for tempo := range api.MaxTempo + 1 {
			task := api.Task{Model: m, Formula: append(slices.Repeat(term(finally), tempo), no)}
			claims := 1 << tempo
			for _, state := range append([]int{many, many + 1, 2 * many, 4096}, wrongNumbers...) {
				if state < 0 || state >= many {
					noSpot(t, task, api.Spot{State: state})
					noSpot(t, task, api.Spot{State: state, Claim: claims - 1})
					noSpot(t, task, api.Spot{State: state, Claim: claims})
				}
			}
			for _, claim := range append([]int{claims, claims + 1, 2 * claims, 64, 1 << 6, 1 << 31}, wrongNumbers...) {
				if claim < 0 || claim >= claims {
					noSpot(t, task, api.Spot{Claim: claim})
					noSpot(t, task, api.Spot{State: many - 1, Claim: claim})
				}
			}
			behind(t, task, api.Spot{State: many - 1}, secondBehind(task, api.Spot{State: many - 1}))
			behind(t, task, api.Spot{State: many - 1, Claim: claims - 1}, secondBehind(task, api.Spot{State: many - 1, Claim: claims - 1}))
		}
	}
}

// P7.4: graphs written out from the document.
func TestExplore(t *testing.T) {
	for _, c := range []struct {
		task api.Task
		want api.Graph
	}{
		{still(yes), api.Graph{}},
		{still(no), api.Graph{Spots: spots(0, 0), Init: 1, Next: [][]int{{0}}, Sets: []int{0}}},
		// without a spot it is told, too, how many ops look ahead
		{still(or, yes, until, next, no, no), api.Graph{Many: 2}},
		{still(next, yes), api.Graph{Spots: spots(0, 0), Init: 1, Next: [][]int{nil}, Sets: []int{1}, Many: 1}},
		{still(next, no), api.Graph{Spots: spots(0, 0, 0, 1), Init: 1, Next: [][]int{{0, 1}, nil}, Sets: []int{1, 1}, Many: 1}},
		{still(finally, no), api.Graph{Spots: spots(0, 0), Init: 1, Next: [][]int{{0}}, Sets: []int{1}, Many: 1}},
		// what waits is not met
		{still(not, finally, no), api.Graph{Spots: spots(0, 1), Init: 1, Next: [][]int{{0}}, Sets: []int{0}, Many: 1}},
		{still(not, finally, yes), api.Graph{Spots: spots(0, 1, 0, 0), Init: 1, Next: [][]int{{1, 0}, nil}, Sets: []int{1, 1}, Many: 1}},
		{still(globally, yes), api.Graph{Spots: spots(0, 0), Init: 1, Next: [][]int{{0}}, Sets: []int{0}, Many: 1}},
		{still(not, globally, yes), api.Graph{Spots: spots(0, 1), Init: 1, Next: [][]int{{0}}, Sets: []int{1}, Many: 1}},
		{still(until, yes, no), api.Graph{Spots: spots(0, 0), Init: 1, Next: [][]int{{0}}, Sets: []int{1}, Many: 1}},
		{still(not, until, yes, no), api.Graph{Spots: spots(0, 1), Init: 1, Next: [][]int{{0}}, Sets: []int{0}, Many: 1}},
		{still(release, no, yes), api.Graph{Spots: spots(0, 0), Init: 1, Next: [][]int{{0}}, Sets: []int{0}, Many: 1}},
		{still(not, release, no, yes), api.Graph{Spots: spots(0, 1), Init: 1, Next: [][]int{{0}}, Sets: []int{1}, Many: 1}},
		// the sets' bits are in the order of the ops' places
		{still(and, finally, no, finally, no), api.Graph{Spots: spots(0, 0, 0, 1, 0, 2), Init: 3, Next: [][]int{{0}, {1}, {2}}, Sets: []int{3, 2, 1}, Many: 2}},
		{still(and, finally, no, not, globally, yes), api.Graph{Spots: spots(0, 0, 0, 2, 0, 3), Init: 3, Next: [][]int{{0}, {1}, {2}}, Sets: []int{1, 3, 2}, Many: 2}},
		// what lies ahead may be met again
		{swing(next, prop(0)), api.Graph{Spots: spots(0, 0), Init: 1, Next: [][]int{nil}, Sets: []int{1}, Many: 1}},
		{swing(not, next, prop(0)), api.Graph{Spots: spots(0, 1, 1, 0, 1, 1, 0, 0), Init: 1, Next: [][]int{{1, 2}, {3, 0}, nil, nil}, Sets: []int{1, 1, 1, 1}, Many: 1}},
		{swing(globally, finally, prop(0)), api.Graph{Spots: spots(0, 0, 0, 2, 1, 0, 1, 1, 1, 2), Init: 2, Next: [][]int{{2, 3}, {4}, nil, nil, {0, 1}}, Sets: []int{3, 0, 3, 3, 2}, Many: 2}},
	} {
		explore(t, c.task, c.want)
	}
}

// P7.4: the document's example of the whole.
func TestExampleOfTheWhole(t *testing.T) {
	up := when(term(lt, variable(0), num(2)), set(0, add, variable(0), num(1)))
	task := api.Task{Model: line(3, up, when(term(yes))), Props: terms(term(eq, variable(0), num(2))), Formula: term(finally, prop(0))}
	explore(t, task, api.Graph{Spots: spots(0, 0, 1, 0, 2, 0), Init: 1, Next: [][]int{{0, 1}, {1, 2}, nil}, Sets: []int{1, 1, 1}, Many: 1})
	task.Model.Rules = task.Model.Rules[:1]
	explore(t, task, api.Graph{Spots: spots(0, 0, 1, 0, 2, 0), Init: 1, Next: [][]int{{1}, {2}, nil}, Sets: []int{1, 1, 1}, Many: 1})
}

// P7.4: spot by spot in the order in which they are met, not by their codes, and not into the depth.
func TestOrderOfSpots(t *testing.T) {
	at := func(n int, to ...int) []api.Rule {
		var l []api.Rule
		for _, code := range to {
			l = append(l, when(term(eq, variable(0), num(n)), set(0, num(code))))
		}
		return l
	}
	m := line(9, slices.Concat(at(4, 7, 5), at(5, 1, 4, 8), at(7, 0, 8), at(1, 7), at(8, 2))...)
	m.Vars[0].Init = 4
	// 4 leads to 5 and 7, 5 to 1, 4 and 8, 7 to 0 and 8, 1 to 7, 8 to 2; 0 and 2 stay
	explore(t, api.Task{Model: m, Formula: term(no)}, api.Graph{
		Spots: spots(4, 0, 5, 0, 7, 0, 1, 0, 8, 0, 0, 0, 2, 0),
		Init:  1,
		Next:  [][]int{{1, 2}, {3, 0, 4}, {5, 4}, {2}, {6}, {5}, {6}},
		Sets:  make([]int, 7),
	})
	// with two claims that never change, each at all of these states
	explore(t, api.Task{Model: m, Formula: term(and, no, finally, no)}, api.Graph{
		Spots: spots(4, 0, 4, 1, 5, 0, 7, 0, 5, 1, 7, 1, 1, 0, 8, 0, 0, 0, 1, 1, 8, 1, 0, 1, 2, 0, 2, 1),
		Init:  2,
		Next:  [][]int{{2, 3}, {4, 5}, {6, 0, 7}, {8, 7}, {9, 1, 10}, {11, 10}, {3}, {12}, {8}, {5}, {13}, {11}, {12}, {13}},
		Sets:  []int{1, 0, 1, 1, 0, 0, 1, 1, 1, 0, 0, 0, 1, 0},
		Many:  1,
	})
}

// chain of so many states, one behind the other; the last one stays. Their codes rise from 0 on.
func chain(many int) api.Model {
	ahead := term(lt, add, mul, variable(0), num(64), variable(1), add, mul, num((many-1)/64), num(64), num((many-1)%64))
	return api.Model{
		Vars: []api.Variable{from("x", 0, 63), from("y", 0, 63)},
		Rules: []api.Rule{
			when(slices.Concat(term(and, lt, variable(1), num(63)), ahead), set(1, add, variable(1), num(1))),
			when(slices.Concat(term(and, eq, variable(1), num(63)), ahead), set(0, add, variable(0), num(1)), set(1, num(0))),
		},
	}
}

// firm formula: each claim about it stays as it is from moment to moment. These ops, of the kinds And and Or, tell with which claims it holds.
func firm(ops ...api.Op) []api.Op {
	f := []api.Op{}
	for _, op := range ops {
		f = append(f, op, finally, no)
	}
	return append(f, finally, no)
}

// firmGraph of a chain of so many states and a firm formula that looks ahead so often and does not hold with these claims.
func firmGraph(states, tempo int, claims []int) api.Graph {
	g := api.Graph{Init: len(claims), Many: tempo}
	for code := range states {
		for _, claim := range claims {
			g.Spots = append(g.Spots, api.Spot{State: code, Claim: claim})
			g.Sets = append(g.Sets, 1<<tempo-1-claim)
			place := len(g.Next)
			if code < states-1 {
				place += len(claims)
			}
			g.Next = append(g.Next, []int{place})
		}
	}
	return g
}

// P7.4: at most MaxGraph spots, and just that many are not too many.
func TestFull(t *testing.T) {
	never := func(ops ...api.Op) []api.Op { return slices.Concat(term(and, no), firm(ops...)) }
	for _, c := range []struct {
		formula []api.Op
		tempo   int
		claims  int // with so many it does not hold
		states  int
	}{
		{never(), 1, 2, 4096},
		{firm(or, or, or, or, or), 6, 1, 4096},
		{firm(or, or, or, or, and), 6, 3, 4096},
		{never(or, and, or, and), 5, 32, 1},
		{never(or, and, or, and), 5, 32, 624},
		{never(or, and, or, and), 5, 32, 625}, // 20000
		{never(or, and, or, and), 5, 32, 626},
		{firm(and, and, and, or, and), 6, 59, 338}, // 19942
		{firm(and, and, and, or, and), 6, 59, 339}, // 20001
		{never(or, and, or, and, or), 6, 64, 312},
		{never(or, and, or, and, or), 6, 64, 313},
		{never(or, and, or, and, or), 6, 64, 4096},
	} {
		task := api.Task{Model: chain(c.states), Formula: c.formula}
		var claims []int
		for _, s := range secondBegin(task) {
			claims = append(claims, s.Claim)
		}
		if len(claims) != c.claims {
			t.Fatalf("the formula %v does not hold with the claims %v", c.formula, claims)
		}
		if c.claims*c.states > 20000 {
			full(t, task)
			continue
		}
		if g, e := product.Explore(task); !sameGraph(g, firmGraph(c.states, c.tempo, claims)) || e != api.OK {
			t.Errorf("Explore of %d states and %d claims: %d spots, %v", c.states, c.claims, len(g.Spots), e)
		}
	}
}

// secondBegin: a second reading of the chapter, of a task that is right.
func secondBegin(t api.Task) []api.Spot {
	first, _ := model.First(t.Model)
	letter, _ := step.Letter(t.Model, t.Props, first)
	l := []api.Spot{}
	for claim := 0; ; claim++ {
		holds, e := logic.Truths(t.Formula, letter, claim)
		if e != api.OK { // there is no such claim any more
			return l
		}
		if !holds[0] {
			l = append(l, api.Spot{State: first, Claim: claim})
		}
	}
}

// secondBehind: a second reading of the chapter, of a task that is right and a spot of it.
func secondBehind(t api.Task, s api.Spot) []api.Spot {
	now, _ := step.Letter(t.Model, t.Props, s.State)
	codes, _ := step.Next(t.Model, s.State)
	l := []api.Spot{}
	for _, code := range codes {
		then, _ := step.Letter(t.Model, t.Props, code)
		for claim := 0; ; claim++ {
			follows, e := logic.Follows(t.Formula, now, s.Claim, then, claim)
			if e != api.OK {
				break
			}
			if follows {
				l = append(l, api.Spot{State: code, Claim: claim})
			}
		}
	}
	return l
}

// secondGraph: a second reading of the chapter, of a task that is right, with few spots.
func secondGraph(t api.Task) api.Graph {
	g := api.Graph{Spots: secondBegin(t)}
	g.Init = len(g.Spots)
	for len(g.Next) < len(g.Spots) {
		s := g.Spots[len(g.Next)]
		places := []int{}
		for _, b := range secondBehind(t, s) {
			if !slices.Contains(g.Spots, b) {
				g.Spots = append(g.Spots, b)
			}
			places = append(places, slices.Index(g.Spots, b))
		}
		g.Next = append(g.Next, places)
		letter, _ := step.Letter(t.Model, t.Props, s.State)
		meets, _ := logic.Meets(t.Formula, letter, s.Claim)
		g.Sets = append(g.Sets, meets)
	}
	for _, op := range t.Formula {
		if op.Kind >= api.Next {
			g.Many++
		}
	}
	return g
}

// hold the faces against the second reading, at all spots of a task that is right.
func hold(t *testing.T, task api.Task) {
	t.Helper()
	if e := product.Check(task); e != api.OK {
		t.Fatalf("Check(%v): %v", task, e)
	}
	want := secondGraph(task)
	begin(t, task, want.Spots[:want.Init])
	explore(t, task, want)
	states, _ := model.Count(task.Model)
	for code := -1; code <= states; code++ {
		for claim := -1; claim <= 1<<want.Many; claim++ {
			s := api.Spot{State: code, Claim: claim}
			if code < 0 || code == states || claim < 0 || claim == 1<<want.Many {
				noSpot(t, task, s)
			} else {
				behind(t, task, s, secondBehind(task, s))
			}
		}
	}
}

// everyFormula over two propositions of up to so many ops.
func everyFormula(most int) [][]api.Op {
	ops := term(prop(0), prop(1), yes, no, not, and, or, next, until, release, finally, globally)
	bySize := [][][]api.Op{nil}
	for size := 1; size <= most; size++ {
		var made [][]api.Op
		for _, op := range ops {
			parts, _ := polish.Parts(op.Kind)
			switch {
			case parts == 0 && size == 1:
				made = append(made, term(op))
			case parts == 1:
				for _, part := range bySize[size-1] {
					made = append(made, slices.Concat(term(op), part))
				}
			case parts == 2:
				for firstSize := 1; firstSize < size-1; firstSize++ {
					for _, first := range bySize[firstSize] {
						for _, second := range bySize[size-1-firstSize] {
							made = append(made, slices.Concat(term(op), first, second))
						}
					}
				}
			}
		}
		bySize = append(bySize, made)
	}
	return slices.Concat(bySize...)
}

// P7.2 to P7.4: every short formula, of a model in which each letter of two propositions comes behind each other one.
func TestEveryShortFormula(t *testing.T) {
	m := line(4, to(3), to(0), to(2), to(1))
	odd := term(or, eq, variable(0), num(1), eq, variable(0), num(3))
	for _, f := range everyFormula(4) {
		hold(t, api.Task{Model: m, Props: terms(odd, term(lt, num(1), variable(0))), Formula: f})
	}
}

// die: numbers that look drawn, the same each time.
type die uint64

func (d *die) below(most int) int {
	*d = *d*6364136223846793005 + 1442695040888963407
	return int(uint64(*d>>33) % uint64(most))
}

// number over so many variables that looks drawn, now and then too great.
func (d *die) number(many, deep int) []api.Op {
	kind := d.below(8)
	switch {
	case kind == 7 && deep > 0 && d.below(6) == 0:
		return term(mul, num(1000), add, num(999), num(d.below(3)))
	case (kind < 3 || deep == 0) && many > 0:
		return term(variable(d.below(many)))
	case kind < 5 || deep == 0:
		return term(num(d.below(7) - 2))
	}
	return slices.Concat(term([]api.Op{add, sub, mul}[kind-5]), d.number(many, deep-1), d.number(many, deep-1))
}

// truth over so many variables that looks drawn.
func (d *die) truth(many, deep int) []api.Op {
	switch kind := d.below(9); {
	case kind == 0 || deep == 0:
		return term([]api.Op{yes, yes, no}[d.below(3)])
	case kind == 1:
		return slices.Concat(term(not), d.truth(many, deep-1))
	case kind == 2:
		return slices.Concat(term([]api.Op{and, or}[d.below(2)]), d.truth(many, deep-1), d.truth(many, deep-1))
	}
	return slices.Concat(term([]api.Op{eq, lt, lt}[d.below(3)]), d.number(many, 1), d.number(many, 1))
}

// model that looks drawn, of at most three variables.
func (d *die) model() api.Model {
	m := api.Model{}
	many := []int{0, 1, 2, 2, 3, 3}[d.below(6)]
	for i := range many {
		v := from(string(rune('a'+i)), d.below(5)-2, 0)
		v.High = v.Low + d.below(4)
		v.Init = v.Low + d.below(v.High-v.Low+1)
		m.Vars = append(m.Vars, v)
		if d.below(2) == 0 { // what is drawn at large is soon outside the bounds, and few states would be reached
			m.Rules = append(m.Rules, when(term(yes), set(i, add, variable(i), num(1))), when(d.truth(many, 1), set(i, num(v.Low))))
		}
	}
	for range d.below(6) {
		r := api.Rule{Guard: d.truth(many, d.below(3))}
		for i := range d.below(many + 1) {
			r.Sets = append(r.Sets, set(i, d.number(many, 1)...))
		}
		m.Rules = append(m.Rules, r)
	}
	return m
}

// formula over so many propositions that looks drawn.
func (d *die) formula(deep, props int) []api.Op {
	if deep == 0 || d.below(12) == 0 {
		if props == 0 || d.below(12) == 0 {
			return term([]api.Op{yes, no}[d.below(2)])
		}
		return term(prop(d.below(props)))
	}
	l := term([]api.Op{and, or, not, not, next, next, until, release, finally, globally}[d.below(10)])
	parts, _ := polish.Parts(l[0].Kind)
	for range parts {
		l = append(l, d.formula(deep-1, props)...)
	}
	return l
}

// task that looks drawn, whose formula looks ahead at most so often.
func (d *die) task(deep, tempo int) api.Task {
	t := api.Task{Model: d.model(), Props: [][]api.Op{}}
	for range d.below(4) {
		t.Props = append(t.Props, d.truth(len(t.Model.Vars), 2))
	}
	for {
		t.Formula = d.formula(deep, len(t.Props))
		if ahead, e := logic.Ahead(t.Formula, len(t.Props)); e == api.OK && len(ahead) <= tempo {
			return t
		}
	}
}

// P7.1 to P7.4
func TestDrawn(t *testing.T) {
	d := die(7)
	empty, great, many := 0, 0, 0
	for range 1500 {
		task := d.task(1+d.below(4), 4)
		hold(t, task)
		g, _ := product.Explore(task)
		if len(g.Spots) == 0 {
			empty++
		}
		if len(g.Spots) > 30 {
			great++
		}
		if g.Many == 4 && g.Init > 1 {
			many++
		}
		if t.Failed() {
			t.Fatal("a drawn task is not as it should be")
		}
	}
	if empty < 100 || great < 50 || many < 50 {
		t.Errorf("too few were drawn: %d empty graphs, %d great ones, %d with four sets", empty, great, many)
	}
}

// greatest task there is but for its formula: 4096 states with 64 letters, twelve rules, each term as long as it may be.
func greatest(formula []api.Op) api.Task {
	t := api.Task{Formula: formula}
	long := slices.Repeat(term(add, num(0)), 28)
	for i := range api.MaxVars {
		t.Model.Vars = append(t.Model.Vars, from(string(rune('a'+i)), 0, 3))
		t.Props = append(t.Props, slices.Concat(slices.Repeat(term(not), 56), term(lt, variable(i), num(2))))
	}
	for i := range api.MaxRules {
		r := when(slices.Concat(slices.Repeat(term(not), api.MaxOps-1), term(no)))
		for j := range api.MaxVars {
			by := 0
			if j == i%api.MaxVars {
				by = 1 - 2*(i/api.MaxVars)
			}
			r.Sets = append(r.Sets, set(j, slices.Concat(long, term(add, variable(j), num(by)))...))
		}
		t.Model.Rules = append(t.Model.Rules, r)
	}
	return t
}

// longest formula that begins with these ops: it is lengthened by nots.
func longest(ops ...api.Op) []api.Op {
	return slices.Concat(slices.Repeat(term(not), (api.MaxOps-len(ops))/2*2), ops)
}

// P7.3, P7.4: as many states, letters, rules and claims as there may be.
func TestGreatest(t *testing.T) {
	d := die(77)
	for _, f := range [][]api.Op{
		longest(and, no, until, next, prop(4), and, prop(2), prop(5)),
		longest(not, globally, release, prop(3), prop(0)),
	} {
		task := greatest(f)
		g, e := product.Explore(task)
		if len(g.Spots) < 4096 || len(g.Spots) != len(g.Next) || len(g.Spots) != len(g.Sets) || g.Many != 2 || e != api.OK {
			t.Fatalf("Explore(.. %v): %d spots, %v", f, len(g.Spots), e)
		}
		begin(t, task, g.Spots[:g.Init])
		for range 50 {
			place := d.below(len(g.Spots))
			want := secondBehind(task, g.Spots[place])
			behind(t, task, g.Spots[place], want)
			if !slices.EqualFunc(g.Next[place], want, func(to int, s api.Spot) bool { return g.Spots[to] == s }) {
				t.Errorf("Explore(.. %v): behind %v: %v, want %v", f, g.Spots[place], g.Next[place], want)
			}
		}
	}
	six := longest(and, no, until, next, prop(0), or, finally, prop(1), release, globally, prop(2), and, prop(3), next, or, prop(4), prop(5))
	full(t, greatest(six))
	for range 20 {
		s := api.Spot{State: d.below(4096), Claim: d.below(64)}
		behind(t, greatest(six), s, secondBehind(greatest(six), s))
	}
}

// letters of states.
func letters(task api.Task, codes []int) [][]bool {
	var l [][]bool
	for _, code := range codes {
		letter, _ := step.Letter(task.Model, task.Props, code)
		l = append(l, letter)
	}
	return l
}

// walk along a graph or a model: drawn steps, until something is met again; then a stem and a loop.
func (d *die) walk(at int, behind func(int) []int) api.Lasso {
	var way []int
	for !slices.Contains(way, at) || d.below(3) == 0 { // now and then what is met again is passed by
		way = append(way, at)
		l := behind(at)
		if len(l) == 0 || len(way) > 2*api.MaxWord {
			return api.Lasso{}
		}
		at = l[d.below(len(l))]
	}
	loop := slices.Index(way, at)
	return api.Lasso{Stem: way[:loop], Loop: way[loop:]}
}

// What comes of it: a run that does not keep the formula is a way through the graph in which each set is met again and again.
func TestRunsAreWays(t *testing.T) {
	d := die(777)
	found := 0
	for range 4000 {
		task := d.task(3, api.MaxTempo)
		first, _ := model.First(task.Model)
		run := d.walk(first, func(code int) []int {
			l, _ := step.Next(task.Model, code)
			return l
		})
		w := api.Word{Stem: letters(task, run.Stem), Loop: letters(task, run.Loop)}
		holds, e := word.Holds(task.Formula, w, len(task.Props))
		if e != api.OK { // too long a run
			continue
		}
		claims, _ := word.Claims(task.Formula, w, len(task.Props))
		g, _ := product.Explore(task)
		codes := slices.Concat(run.Stem, run.Loop)
		at := slices.Index(g.Spots[:g.Init], api.Spot{State: first, Claim: claims[0]})
		if holds {
			if at >= 0 {
				t.Errorf("%v: the run %v keeps the formula, and begins at %v", task, run, g.Spots[at])
			}
			continue
		}
		found++
		met := 0
		for now := range codes {
			if at < 0 {
				t.Fatalf("%v: the run %v, with the claims %v, is no way through %v up to %d", task, run, claims, g, now)
			}
			if now >= len(run.Stem) {
				met |= g.Sets[at]
			}
			then := now + 1
			if then == len(codes) {
				then = len(run.Stem)
			}
			s := api.Spot{State: codes[then], Claim: claims[then]}
			if to := slices.IndexFunc(g.Next[at], func(to int) bool { return g.Spots[to] == s }); to >= 0 {
				at = g.Next[at][to]
			} else {
				at = -1
			}
		}
		if at < 0 || met != 1<<g.Many-1 {
			t.Fatalf("%v: the run %v, with the claims %v, does not go on and on through %v", task, run, claims, g)
		}
	}
	if found < 500 {
		t.Errorf("only %d runs that do not keep a formula were drawn", found)
	}
}

// What comes of it: a way through the graph in which each set is met again and again is a run that does not keep the formula.
func TestWaysAreRuns(t *testing.T) {
	d := die(7777)
	found := 0
	for range 4000 {
		task := d.task(3, api.MaxTempo)
		g, _ := product.Explore(task)
		if g.Init == 0 {
			continue
		}
		way := d.walk(d.below(g.Init), func(place int) []int { return g.Next[place] })
		met := 0
		for _, place := range way.Loop {
			met |= g.Sets[place]
		}
		if len(way.Loop) == 0 || met != 1<<g.Many-1 {
			continue
		}
		var run api.Lasso
		var claims []int
		for _, place := range slices.Concat(way.Stem, way.Loop) {
			claims = append(claims, g.Spots[place].Claim)
		}
		for _, place := range way.Stem {
			run.Stem = append(run.Stem, g.Spots[place].State)
		}
		for _, place := range way.Loop {
			run.Loop = append(run.Loop, g.Spots[place].State)
		}
		w := api.Word{Stem: letters(task, run.Stem), Loop: letters(task, run.Loop)}
		holds, e := word.Holds(task.Formula, w, len(task.Props))
		if e != api.OK { // too long a way
			continue
		}
		found++
		told, _ := word.Claims(task.Formula, w, len(task.Props))
		if holds || !slices.Equal(claims, told) {
			t.Fatalf("%v: of the way %v through %v the formula holds: %v; the claims are %v, want %v", task, way, g, holds, claims, told)
		}
	}
	if found < 500 {
		t.Errorf("only %d ways were drawn", found)
	}
}

// whole list, copied up to its cap.
func whole[T any](l []T) []T { return append([]T(nil), l[:cap(l)]...) }

// cloneOf a task, with the spare room of its lists.
func cloneOf(t api.Task) api.Task {
	c := api.Task{Model: api.Model{Vars: whole(t.Model.Vars), Rules: whole(t.Model.Rules)}, Props: whole(t.Props), Formula: whole(t.Formula)}
	for i, r := range c.Model.Rules {
		c.Model.Rules[i] = api.Rule{Guard: whole(r.Guard), Sets: whole(r.Sets)}
		for j, s := range c.Model.Rules[i].Sets {
			c.Model.Rules[i].Sets[j].Value = whole(s.Value)
		}
	}
	for i, l := range c.Props {
		c.Props[i] = whole(l)
	}
	return c
}

// What is handed in stays as it is, its spare room too.
func TestListsHandedInStay(t *testing.T) {
	up := when(term(lt, variable(0), num(3), num(9))[:3], set(0, add, variable(0), num(1)), set(7), set(1, yes))
	all := api.Task{
		Model:   api.Model{Vars: []api.Variable{from("x", 0, 3), from("y", 0, 1), from("no", 3, 2)}, Rules: []api.Rule{up, to(2), {}}},
		Props:   terms(term(yes, no, yes)[:1], term(eq, variable(0), num(2)), term(num(1))),
		Formula: term(until, prop(0), globally, next, prop(1), finally, prop(2), yes),
	}
	before := cloneOf(all)
	for vars := range len(all.Model.Vars) + 1 {
		for rules := range len(all.Model.Rules) + 1 {
			for props := range len(all.Props) + 1 {
				for many := range len(all.Formula) + 1 {
					task := api.Task{Model: api.Model{Vars: all.Model.Vars[:vars], Rules: slices.Clone(all.Model.Rules[:rules])}, Props: all.Props[:props], Formula: all.Formula[:many]}
					if rules > 0 {
						task.Model.Rules[0].Sets = up.Sets[:1]
					}
					product.Check(task)
					product.Begin(task)
					product.Behind(task, api.Spot{})
					product.Behind(task, api.Spot{State: 1, Claim: 1})
					product.Explore(task)
					if !reflect.DeepEqual(cloneOf(all), before) {
						t.Fatalf("%d variables, %d rules, %d propositions and %d ops handed in: %v is left", vars, rules, props, many, all)
					}
				}
			}
		}
	}
}

// spoilt: a list is filled up to its cap.
func spoilt[T any](l []T, with T) {
	for i := range l[:cap(l)] {
		l[:cap(l)][i] = with
	}
}

// Answers are new memory, spare room too: what is written there shows in no argument, in no other answer and in no other list.
func TestAnswersAreNew(t *testing.T) {
	d := die(70)
	bad := api.Spot{State: -7, Claim: -7}
	for range 200 {
		task := d.task(3, 3)
		before := cloneOf(task)
		want := secondGraph(task)
		first, _ := product.Begin(task)
		other, _ := product.Begin(task)
		spoilt(first, bad)
		if !slices.Equal(other, want.Spots[:want.Init]) {
			t.Errorf("another answer of Begin became %v", other)
		}
		for _, s := range want.Spots {
			l, _ := product.Behind(task, s)
			other, _ := product.Behind(task, s)
			spoilt(l, bad)
			if !slices.Equal(other, secondBehind(task, s)) {
				t.Errorf("another answer of Behind became %v", other)
			}
		}
		g, _ := product.Explore(task)
		later, _ := product.Explore(task)
		spoilt(g.Spots, bad)
		spoilt(g.Sets, -7)
		for place := range g.Next {
			if !slices.EqualFunc(g.Next[place:], want.Next[place:], slices.Equal[[]int]) {
				t.Fatalf("the Next of another spot, or its Sets, became %v", g.Next)
			}
			spoilt(g.Next[place], -7)
		}
		spoilt(g.Next, nil)
		if !sameGraph(later, want) || !reflect.DeepEqual(cloneOf(task), before) {
			t.Errorf("behind a change of answers: %v and %v are left", later, task)
		}
		explore(t, task, want)
	}
}
