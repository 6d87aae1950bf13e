package verdict_test

import (
	"math"
	"reflect"
	"slices"
	"testing"

	"foretell/api"
	"foretell/logic"
	"foretell/model"
	"foretell/polish"
	"foretell/product"
	"foretell/step"
	"foretell/verdict"
)

func num(n int) api.Op { return api.Op{Kind: api.Num, Value: n} }

func variable(place int) api.Op { return api.Op{Kind: api.Var, Value: place} }

func prop(place int) api.Op { return api.Op{Kind: api.Prop, Value: place} }

var (
	add, sub, mul     = api.Op{Kind: api.Add}, api.Op{Kind: api.Sub}, api.Op{Kind: api.Mul}
	eq, lt            = api.Op{Kind: api.Eq}, api.Op{Kind: api.Lt}
	and, or, not      = api.Op{Kind: api.And}, api.Op{Kind: api.Or}, api.Op{Kind: api.Not}
	yes, no           = api.Op{Kind: api.Yes}, api.Op{Kind: api.No}
	next              = api.Op{Kind: api.Next}
	until, release    = api.Op{Kind: api.Until}, api.Op{Kind: api.Release}
	finally, globally = api.Op{Kind: api.Finally}, api.Op{Kind: api.Globally}
	wrongNumbers      = []int{math.MinInt, math.MinInt + 1, -1 << 32, -4096, -2, -1, 4096, 1 << 32, 1 << 62, math.MaxInt - 1, math.MaxInt}
)

// term of these ops.
func term(l ...api.Op) []api.Op { return l }

// terms, one behind the other.
func terms(l ...[]api.Op) [][]api.Op { return l }

// codes, one behind the other.
func codes(l ...int) []int { return l }

// lasso of a stem and a loop.
func lasso(stem, loop []int) api.Lasso { return api.Lasso{Stem: stem, Loop: loop} }

// from Low to High, beginning at Low.
func from(name string, low, high int) api.Variable {
	return api.Variable{Name: name, Low: low, High: high, Init: low}
}

// when a guard holds.
func when(guard []api.Op, sets ...api.Set) api.Rule { return api.Rule{Guard: guard, Sets: sets} }

// set a variable to what these ops make.
func set(place int, l ...api.Op) api.Set { return api.Set{Var: place, Value: l} }

// to a value of the first variable, from wherever it is.
func to(n int) api.Rule { return when(term(yes), set(0, num(n))) }

// arrow from a value of the first variable to another one.
func arrow(n, then int) api.Rule { return when(term(eq, variable(0), num(n)), set(0, num(then))) }

// line of one variable x from 0 on, with so many states, whose codes are its values.
func line(many int, l ...api.Rule) api.Model {
	return api.Model{Vars: []api.Variable{from("x", 0, many-1)}, Rules: l}
}

// is: the first variable has this value.
func is(n int) []api.Op { return term(eq, variable(0), num(n)) }

// counter: x counts from 0 to 2; perhaps it may stay. The proposition is that it is 2.
func counter(stays bool, formula ...api.Op) api.Task {
	t := api.Task{Model: line(3, when(term(lt, variable(0), num(2)), set(0, add, variable(0), num(1)))), Props: terms(is(2)), Formula: formula}
	if stays {
		t.Model.Rules = append(t.Model.Rules, when(term(yes)))
	}
	return t
}

// swing task: x is 0, 1, 0, 1 and so on; the propositions are that it is 1, and that it is 0.
func swing(formula ...api.Op) api.Task {
	return api.Task{Model: line(2, when(term(yes), set(0, sub, num(1), variable(0)))), Props: terms(is(1), is(0)), Formula: formula}
}

// fork task: x is 0, and then 1 for ever, or 2 for ever; the propositions are that it is 1, and that it is 2.
func fork(formula ...api.Op) api.Task {
	return api.Task{Model: line(3, arrow(0, 1), arrow(0, 2)), Props: terms(is(1), is(2)), Formula: formula}
}

// free task: from each of the values 0 to 3 x may go to each; so the letters of two propositions come in each order.
func free(formula ...api.Op) api.Task {
	odd := term(or, eq, variable(0), num(1), eq, variable(0), num(3))
	return api.Task{Model: line(4, to(2), to(0), to(3), to(1)), Props: terms(odd, term(lt, num(1), variable(0))), Formula: formula}
}

// leads: a second reading of what comes behind a state, rule by rule.
func leads(m api.Model, code, then int) bool {
	stuck := true
	for rule := range m.Rules {
		behind, e := step.After(m, code, rule)
		if e == api.OK && behind == then {
			return true
		}
		stuck = stuck && e == api.ErrNone
	}
	states, _ := model.Count(m)
	return stuck && code == then && code >= 0 && code < states
}

// secondRuns: a second reading of P9.2, of a model that is right.
func secondRuns(m api.Model, l api.Lasso) bool {
	if len(l.Loop) == 0 {
		return false
	}
	all := slices.Concat(l.Stem, l.Loop)
	if first, _ := model.First(m); all[0] != first {
		return false
	}
	for i := range len(all) - 1 {
		if !leads(m, all[i], all[i+1]) {
			return false
		}
	}
	return leads(m, all[len(all)-1], l.Loop[0])
}

// partsOf each op: the places where they begin, found from the last op on, by a stack.
func partsOf(l []api.Op) [][]int {
	parts := make([][]int, len(l))
	var stack []int
	for place, op := range slices.Backward(l) {
		many, _ := polish.Parts(op.Kind)
		for range many {
			parts[place] = append(parts[place], stack[len(stack)-1])
			stack = stack[:len(stack)-1]
		}
		stack = append(stack, place)
	}
	return parts
}

// some of the moments from one to ahead of another have what is looked for.
func some(from, to int, has func(moment int) bool) bool {
	for moment := from; moment < to; moment++ {
		if has(moment) {
			return true
		}
	}
	return false
}

// all of the moments from one to ahead of another have what is looked for.
func all(from, to int, has func(moment int) bool) bool {
	return !some(from, to, func(moment int) bool { return !has(moment) })
}

// holdsOf letters, of which those from a moment on come again and again: a second reading of P6.2, by its words, however long the word is.
func holdsOf(f []api.Op, letters [][]bool, loop int) bool {
	many := len(letters)
	parts := partsOf(f)
	table := make([][]bool, len(f))
	for place, op := range slices.Backward(f) {
		part := func(which int) func(int) bool {
			return func(moment int) bool {
				if moment >= many {
					moment = loop + (moment-loop)%(many-loop)
				}
				return table[parts[place][which]][moment]
			}
		}
		first, second := part(0), part(1)
		for now := range many {
			end, holds := now+many, false // up to there all letters that come have come
			switch op.Kind {
			case api.Prop:
				holds = letters[now][op.Value]
			case api.Yes:
				holds = true
			case api.Not:
				holds = !first(now)
			case api.And:
				holds = first(now) && second(now)
			case api.Or:
				holds = first(now) || second(now)
			case api.Next:
				holds = first(now + 1)
			case api.Finally:
				holds = some(now, end, first)
			case api.Globally:
				holds = all(now, end, first)
			case api.Until:
				holds = some(now, end, func(then int) bool { return second(then) && all(now, then, first) })
			case api.Release:
				holds = all(now, end, func(then int) bool { return second(then) || some(now, then, first) })
			}
			table[place] = append(table[place], holds)
		}
	}
	return table[0][0]
}

// secondKeeps: a second reading of whether a run keeps a task's formula, however long it is.
func secondKeeps(t api.Task, l api.Lasso) bool {
	letters := [][]bool{}
	for _, code := range slices.Concat(l.Stem, l.Loop) {
		letter, _ := step.Letter(t.Model, t.Props, code)
		letters = append(letters, letter)
	}
	return holdsOf(t.Formula, letters, len(l.Stem))
}

// keepsOf: a second reading of P9.3, whatever is handed in.
func keepsOf(t api.Task, l api.Lasso) (bool, api.Errno) {
	if e := product.Check(t); e != api.OK {
		return false, e
	}
	if len(l.Stem) > 12 || len(l.Loop) > 12 {
		return false, api.ErrSize
	}
	if !secondRuns(t.Model, l) {
		return false, api.ErrNone
	}
	return secondKeeps(t, l), api.OK
}

// holds: each run keeps the formula, and none is told.
func holds(t *testing.T, task api.Task) {
	t.Helper()
	if v, e := verdict.Check(task); !v.Holds || len(v.Run.Stem) != 0 || len(v.Run.Loop) != 0 || e != api.OK {
		t.Errorf("Check(%v): %v, %v, want that it holds", task, v, e)
	}
}

// fails: a run is told that does not keep the formula; which one is not said, so it is held against the document's words.
func fails(t *testing.T, task api.Task) api.Lasso {
	t.Helper()
	v, e := verdict.Check(task)
	if v.Holds || e != api.OK {
		t.Errorf("Check(%v): %v, %v, want a run", task, v, e)
		return v.Run
	}
	if !secondRuns(task.Model, v.Run) {
		t.Errorf("Check(%v): %v is no run", task, v.Run)
	} else if secondKeeps(task, v.Run) {
		t.Errorf("Check(%v): the run %v keeps the formula", task, v.Run)
	}
	runs(t, task.Model, v.Run, true)
	return v.Run
}

// runs: is it a run?
func runs(t *testing.T, m api.Model, l api.Lasso, want bool) {
	t.Helper()
	if yes, e := verdict.Runs(m, l); yes != want || e != api.OK {
		t.Errorf("Runs(%v, %v): %v, %v, want %v", m, l, yes, e, want)
	}
}

// keeps: a run keeps the formula, or does not, or it is refused.
func keeps(t *testing.T, task api.Task, l api.Lasso, want bool, wantE api.Errno) {
	t.Helper()
	if yes, e := verdict.Keeps(task, l); yes != want || e != wantE {
		t.Errorf("Keeps(%v, %v): %v, %v, want %v, %v", task, l, yes, e, want, wantE)
	}
}

// P9.1: the document's examples of the whole.
func TestExamplesOfTheWhole(t *testing.T) {
	holds(t, counter(false, finally, prop(0)))
	run := fails(t, counter(true, finally, prop(0)))
	keeps(t, counter(true, finally, prop(0)), run, false, api.OK)
	keeps(t, counter(true, finally, prop(0)), lasso(nil, codes(0)), false, api.OK)
	keeps(t, counter(true, finally, prop(0)), lasso(codes(0, 0, 1, 1), codes(2)), true, api.OK)
	keeps(t, counter(false, finally, prop(0)), lasso(codes(0, 1), codes(2)), true, api.OK)
	keeps(t, counter(false, finally, prop(0)), lasso(nil, codes(0)), false, api.ErrNone)
}

// P9.1: verdicts written out from the document's words.
func TestVerdicts(t *testing.T) {
	for _, task := range []api.Task{
		// without variables there is one state, which stays for ever
		{Formula: term(yes)},
		{Props: terms(term(yes)), Formula: term(globally, prop(0))},
		{Props: terms(term(no)), Formula: term(not, finally, prop(0))},
		{Formula: term(next, next, next, next, next, next, yes)},
		// it begins at the first state, not at another one
		counter(false, not, prop(0)),
		// behind x = 2 no rule can be done, and the state stays
		counter(false, finally, globally, prop(0)),
		counter(false, next, next, prop(0)),
		counter(false, until, not, prop(0), globally, prop(0)),
		counter(true, release, prop(0), or, prop(0), not, next, globally, no),
		counter(true, or, finally, prop(0), globally, not, prop(0)),
		counter(true, globally, or, not, prop(0), globally, prop(0)),
		// what comes again and again, but never stays
		swing(globally, finally, prop(0)),
		swing(and, globally, finally, prop(0), globally, finally, prop(1)),
		swing(not, finally, globally, prop(0)),
		swing(globally, or, and, prop(0), next, prop(1), and, prop(1), next, prop(0)),
		swing(and, prop(1), next, prop(0)),
		// it is the one or the other, on each run
		fork(next, or, prop(0), prop(1)),
		fork(or, finally, prop(0), finally, prop(1)),
		fork(or, globally, not, prop(0), globally, not, prop(1)),
		free(or, globally, finally, prop(0), finally, globally, not, prop(0)),
		free(or, until, prop(0), prop(1), release, not, prop(0), not, prop(1)),
	} {
		holds(t, task)
	}
	for _, task := range []api.Task{
		{Formula: term(no)},
		{Props: terms(term(no)), Formula: term(finally, prop(0))},
		{Props: terms(term(yes)), Formula: term(not, globally, prop(0))},
		{Formula: term(next, next, next, next, next, next, no)},
		counter(false, prop(0)),
		counter(false, globally, prop(0)),
		counter(false, next, prop(0)),
		counter(false, globally, not, prop(0)),
		counter(true, next, next, prop(0)),
		counter(true, until, not, prop(0), prop(0)),
		counter(true, globally, not, prop(0)),
		counter(true, globally, finally, prop(0)),
		swing(finally, globally, prop(0)),
		swing(globally, not, prop(0)),
		swing(next, next, prop(0)),
		swing(release, prop(0), prop(1)),
		// some runs keep it, not each
		fork(next, prop(0)),
		fork(next, prop(1)),
		fork(finally, prop(0)),
		fork(finally, prop(1)),
		fork(globally, not, prop(0)),
		fork(globally, not, prop(1)),
		// such a formula and its Not may both fail
		free(finally, prop(0)),
		free(not, finally, prop(0)),
		free(globally, finally, prop(0)),
		free(finally, globally, not, prop(0)),
		free(or, globally, finally, prop(0), globally, finally, prop(1)),
		free(not, and, globally, finally, and, prop(0), not, prop(1), globally, finally, and, prop(1), not, prop(0)),
		free(until, prop(0), prop(1)),
		free(release, prop(0), prop(1)),
	} {
		run := fails(t, task)
		keeps(t, task, run, false, api.OK)
	}
}

// P9.1: where there is one run that fails, it is told, however it is written.
func TestTheOneRun(t *testing.T) {
	run := fails(t, fork(finally, prop(0)))
	if l := slices.Concat(run.Stem, run.Loop); l[0] != 0 || !all(1, len(l), func(i int) bool { return l[i] == 2 }) {
		t.Errorf("x is never 1 on the run %v", run)
	}
	run = fails(t, fork(finally, prop(1)))
	if l := slices.Concat(run.Stem, run.Loop); l[0] != 0 || !all(1, len(l), func(i int) bool { return l[i] == 1 }) {
		t.Errorf("x is never 2 on the run %v", run)
	}
}

// P9.1: the first state is that of all Inits, and the run is told by codes, not by values, nor by places of the graph.
func TestRunsAreCodes(t *testing.T) {
	m := api.Model{
		Vars:  []api.Variable{{Name: "x", Low: 5, High: 9, Init: 7}, {Name: "y", Low: -3, High: 3, Init: 2}},
		Rules: []api.Rule{when(term(lt, variable(1), num(3)), set(1, add, variable(1), num(1))), when(term(eq, variable(1), num(3)), set(0, num(9)))},
	}
	// x = 7 and y = 2 is 2 * 7 + 5; then y is 3; then x is 9, for ever
	task := api.Task{Model: m, Props: terms(is(9)), Formula: term(globally, not, prop(0))}
	run := fails(t, task)
	if l := slices.Concat(run.Stem, run.Loop); len(l) < 3 || !slices.Equal(l[:3], codes(19, 20, 34)) || slices.Contains(l[3:], 20) {
		t.Errorf("Check(%v): %v, want 19, 20 and then 34 for ever", task, run)
	}
	task.Formula = term(finally, globally, prop(0))
	holds(t, task)
	runs(t, m, lasso(codes(19, 20), codes(34)), true)
	runs(t, m, lasso(codes(19, 20, 34, 34), codes(34, 34, 34)), true)
	runs(t, m, lasso(codes(0, 1), codes(2)), false)
	keeps(t, task, lasso(codes(19, 20), codes(34)), true, api.OK)
}

// P9.1: a rule that cannot be done is no way on, and a proposition that is refused does not hold.
func TestWhatCannotBeDone(t *testing.T) {
	great := term(mul, num(1000), add, num(1000), variable(0)) // too great, but at x = 0
	m := line(2, when(term(yes), set(0, num(2))), when(slices.Concat(term(lt), great, term(num(0))), set(0, num(1))))
	holds(t, api.Task{Model: m, Props: terms(is(0)), Formula: term(globally, prop(0))})
	m = line(2, to(1))
	over := api.Task{Model: m, Props: terms(slices.Concat(term(lt, num(0)), great)), Formula: term(next, prop(0))}
	fails(t, over)
	over.Formula = term(and, prop(0), next, globally, not, prop(0))
	holds(t, over)
	keeps(t, over, lasso(codes(0), codes(1)), true, api.OK)
}

// everyFormula over two propositions of up to so many ops.
func everyFormula(most int) [][]api.Op {
	ops := term(prop(0), prop(1), yes, no, not, and, or, next, until, release, finally, globally)
	bySize := [][][]api.Op{nil}
	for size := 1; size <= most; size++ {
		var made [][]api.Op
		for _, op := range ops {
			parts, _ := polish.Parts(op.Kind)
			switch {
			case parts == 0 && size == 1:
				made = append(made, term(op))
			case parts == 1:
				for _, part := range bySize[size-1] {
					made = append(made, slices.Concat(term(op), part))
				}
			case parts == 2:
				for firstSize := 1; firstSize < size-1; firstSize++ {
					for _, first := range bySize[firstSize] {
						for _, second := range bySize[size-1-firstSize] {
							made = append(made, slices.Concat(term(op), first, second))
						}
					}
				}
			}
		}
		bySize = append(bySize, made)
	}
	return slices.Concat(bySize...)
}

// everyLine of so many codes, which are these.
func everyLine(many int, of []int) [][]int {
	all := [][]int{nil}
	for range many {
		var longer [][]int
		for _, l := range all {
			for _, code := range of {
				longer = append(longer, append(slices.Clone(l), code))
			}
		}
		all = longer
	}
	return all
}

// everyLasso of up to so many codes in all, which are these; its loop may be empty.
func everyLasso(most int, of []int) []api.Lasso {
	var made []api.Lasso
	for many := range most + 1 {
		for _, l := range everyLine(many, of) {
			for stem := range many + 1 {
				made = append(made, lasso(l[:stem], l[stem:]))
			}
		}
	}
	return made
}

// hold a verdict against a few runs: none that does not keep the formula may be found where it holds.
func hold(t *testing.T, task api.Task, few []api.Lasso) bool {
	t.Helper()
	v, e := verdict.Check(task)
	if !v.Holds || e != api.OK {
		fails(t, task)
		return false
	}
	holds(t, task)
	for _, run := range few {
		if !secondKeeps(task, run) {
			t.Fatalf("Check(%v): it holds, but the run %v does not keep it", task, run)
		}
	}
	return true
}

// P9.1: every short formula, of several models.
func TestEveryShortFormula(t *testing.T) {
	for _, task := range []api.Task{free(), fork(), swing(), counter(true)} {
		task.Props = append(task.Props, is(1))[:2]
		few := slices.DeleteFunc(everyLasso(5, codes(0, 1, 2, 3)), func(l api.Lasso) bool { return !secondRuns(task.Model, l) })
		held, failed := 0, 0
		for _, f := range everyFormula(4) {
			task.Formula = f
			if hold(t, task, few) {
				held++
			} else {
				failed++
			}
		}
		if held < 100 || failed < 100 {
			t.Errorf("%v: of the short formulas %d hold, and %d do not", task.Model, held, failed)
		}
	}
}

// die: numbers that look drawn, the same each time.
type die uint64

func (d *die) below(most int) int {
	*d = *d*6364136223846793005 + 1442695040888963407
	return int(uint64(*d>>33) % uint64(most))
}

// number over so many variables that looks drawn, now and then too great.
func (d *die) number(many, deep int) []api.Op {
	kind := d.below(8)
	switch {
	case kind == 7 && deep > 0 && d.below(6) == 0:
		return term(mul, num(1000), add, num(999), num(d.below(3)))
	case (kind < 3 || deep == 0) && many > 0:
		return term(variable(d.below(many)))
	case kind < 5 || deep == 0:
		return term(num(d.below(7) - 2))
	}
	return slices.Concat(term([]api.Op{add, sub, mul}[kind-5]), d.number(many, deep-1), d.number(many, deep-1))
}

// truth over so many variables that looks drawn.
func (d *die) truth(many, deep int) []api.Op {
	switch kind := d.below(9); {
	case kind == 0 || deep == 0:
		return term([]api.Op{yes, yes, no}[d.below(3)])
	case kind == 1:
		return slices.Concat(term(not), d.truth(many, deep-1))
	case kind == 2:
		return slices.Concat(term([]api.Op{and, or}[d.below(2)]), d.truth(many, deep-1), d.truth(many, deep-1))
	}
	return slices.Concat(term([]api.Op{eq, lt, lt}[d.below(3)]), d.number(many, 1), d.number(many, 1))
}

// vars that look drawn, at most three.
func (d *die) vars() []api.Variable {
	var l []api.Variable
	for i := range []int{0, 1, 2, 2, 3, 3}[d.below(6)] {
		v := from(string(rune('a'+i)), d.below(5)-2, 0)
		v.High = v.Low + d.below(4)
		v.Init = v.Low + d.below(v.High-v.Low+1)
		l = append(l, v)
	}
	return l
}

// model that looks drawn.
func (d *die) model() api.Model {
	m := api.Model{Vars: d.vars()}
	many := len(m.Vars)
	for i, v := range m.Vars {
		if d.below(2) == 0 { // what is drawn at large is soon outside the bounds, and few states would be reached
			m.Rules = append(m.Rules, when(term(yes), set(i, add, variable(i), num(1))), when(d.truth(many, 1), set(i, num(v.Low))))
		}
	}
	for range d.below(6) {
		r := api.Rule{Guard: d.truth(many, d.below(3))}
		for i := range d.below(many + 1) {
			r.Sets = append(r.Sets, set(i, d.number(many, 1)...))
		}
		m.Rules = append(m.Rules, r)
	}
	return m
}

// firmModel that looks drawn: behind each state there is one. The variables count as digits do, the last one fastest, from the highest state back to some other one; and now and then a rule is left out, and they stay there.
func (d *die) firmModel() api.Model {
	m := api.Model{Vars: d.vars()}
	top := term(yes) // are all variables behind the one that is looked at at their highest values?
	var lows, backs []api.Set
	for i, v := range slices.Backward(m.Vars) {
		at := term(eq, variable(i), num(v.High))
		guard := slices.Concat(term(and, not), at, top)
		m.Rules = append(m.Rules, when(guard, append(slices.Clone(lows), set(i, add, variable(i), num(1)))...))
		top = slices.Concat(term(and), at, top)
		lows = append(lows, set(i, num(v.Low)))
		backs = append(backs, set(i, num(v.Low+d.below(v.High-v.Low+1))))
	}
	m.Rules = append(m.Rules, when(top, backs...))
	if d.below(4) == 0 {
		m.Rules = m.Rules[1:]
	}
	return m
}

// formula over so many propositions that looks drawn.
func (d *die) formula(deep, props int) []api.Op {
	if deep == 0 || d.below(12) == 0 {
		if props == 0 || d.below(12) == 0 {
			return term([]api.Op{yes, no}[d.below(2)])
		}
		return term(prop(d.below(props)))
	}
	l := term([]api.Op{and, or, not, not, next, next, until, release, finally, globally}[d.below(10)])
	parts, _ := polish.Parts(l[0].Kind)
	for range parts {
		l = append(l, d.formula(deep-1, props)...)
	}
	return l
}

// task of a model, whose propositions and formula look drawn.
func (d *die) task(m api.Model, deep int) api.Task {
	t := api.Task{Model: m, Props: [][]api.Op{}}
	for range d.below(4) {
		t.Props = append(t.Props, d.truth(len(m.Vars), 2))
	}
	for {
		t.Formula = d.formula(deep, len(t.Props))
		if e := logic.Check(t.Formula, len(t.Props)); e == api.OK {
			return t
		}
	}
}

// run of a model that looks drawn: some steps, until a state is met again.
func (d *die) run(m api.Model) api.Lasso {
	at, _ := model.First(m)
	var way []int
	for !slices.Contains(way, at) || d.below(3) == 0 { // now and then what is met again is passed by
		way = append(way, at)
		l, _ := step.Next(m, at)
		at = l[d.below(len(l))]
	}
	loop := slices.Index(way, at)
	if d.below(2) == 0 {
		loop = len(way) - 1 - slices.Index(reversed(way), at)
	}
	return lasso(way[:loop], way[loop:])
}

// reversed list.
func reversed(l []int) []int {
	l = slices.Clone(l)
	slices.Reverse(l)
	return l
}

// P9.1: drawn tasks, held against runs that are drawn.
func TestDrawn(t *testing.T) {
	d := die(9)
	held, failed := 0, 0
	for range 3000 {
		task := d.task(d.model(), 1+d.below(4))
		var few []api.Lasso
		for range 10 {
			few = append(few, d.run(task.Model))
		}
		if hold(t, task, few) {
			held++
		} else {
			failed++
		}
		if t.Failed() {
			t.Fatal("a drawn verdict is not as it should be")
		}
	}
	if held < 700 || failed < 700 {
		t.Errorf("too few were drawn: %d hold, %d do not", held, failed)
	}
}

// P9.1: where a model has one run, this one tells the verdict; and of a formula and its Not just one holds.
func TestOneRunTells(t *testing.T) {
	d := die(99)
	held, failed, long := 0, 0, 0
	for range 3000 {
		task := d.task(d.firmModel(), 1+d.below(4))
		run := d.run(task.Model)
		if len(run.Stem) > api.MaxWord || len(run.Loop) > api.MaxWord {
			long++
		}
		opposite := task
		opposite.Formula = slices.Concat(term(not), task.Formula)
		if secondKeeps(task, run) {
			holds(t, task)
			fails(t, opposite)
			held++
		} else {
			fails(t, task)
			holds(t, opposite)
			failed++
		}
		if t.Failed() {
			t.Fatal("a drawn verdict is not as it should be")
		}
	}
	if held < 700 || failed < 700 || long < 100 {
		t.Errorf("too few were drawn: %d hold, %d do not; %d runs are long", held, failed, long)
	}
}

// chain of so many states, one behind the other; the last one stays. Their codes rise from 0 on.
func chain(many int) api.Model {
	ahead := term(lt, add, mul, variable(0), num(64), variable(1), add, mul, num((many-1)/64), num(64), num((many-1)%64))
	return api.Model{
		Vars: []api.Variable{from("x", 0, 63), from("y", 0, 63)},
		Rules: []api.Rule{
			when(slices.Concat(term(and, lt, variable(1), num(63)), ahead), set(1, add, variable(1), num(1))),
			when(slices.Concat(term(and, eq, variable(1), num(63)), ahead), set(0, add, variable(0), num(1)), set(1, num(0))),
		},
	}
}

// rising codes from one to ahead of another.
func rising(from, to int) []int {
	var l []int
	for code := from; code < to; code++ {
		l = append(l, code)
	}
	return l
}

// P9.1: a run may be as long as there are states, and longer than Keeps takes.
func TestLongRuns(t *testing.T) {
	last := term(and, eq, variable(0), num(63), eq, variable(1), num(63))
	m := chain(api.MaxStates)
	task := api.Task{Model: m, Props: terms(last), Formula: term(globally, not, prop(0))}
	v, e := verdict.Check(task)
	if all := slices.Concat(v.Run.Stem, v.Run.Loop); v.Holds || e != api.OK || len(all) < 4096 || !slices.Equal(all[:4096], rising(0, 4096)) || len(v.Run.Loop) == 0 {
		t.Errorf("Check of a chain: %v, a stem of %d codes and a loop of %d, %v", v.Holds, len(v.Run.Stem), len(v.Run.Loop), e)
	}
	runs(t, m, v.Run, true)
	keeps(t, task, v.Run, false, api.ErrSize)
	task.Formula = term(finally, globally, prop(0))
	holds(t, task)
	// from the last one to the first one again
	task.Model.Rules = append(slices.Clone(m.Rules), when(last, set(0, num(0)), set(1, num(0))))
	task.Formula = term(globally, finally, prop(0))
	holds(t, task)
	task.Formula = term(not, globally, finally, prop(0))
	v, e = verdict.Check(task)
	if v.Holds || e != api.OK || len(v.Run.Loop)%4096 != 0 || !slices.Contains(v.Run.Loop, 4095) {
		t.Errorf("Check of a ring: %v, a stem of %d codes and a loop of %d, %v", v.Holds, len(v.Run.Stem), len(v.Run.Loop), e)
	}
	runs(t, task.Model, v.Run, true)
	keeps(t, task, v.Run, false, api.ErrSize)
}

// firm formula: each claim about it stays as it is from moment to moment. These ops, of the kinds And and Or, tell with which claims it holds.
func firm(ops ...api.Op) []api.Op {
	f := []api.Op{}
	for _, op := range ops {
		f = append(f, op, finally, no)
	}
	return append(f, finally, no)
}

// P9.1: a graph of more than MaxGraph spots is refused, just that many are not too many; and Runs and Keeps need no graph.
func TestFull(t *testing.T) {
	never := func(ops ...api.Op) []api.Op { return slices.Concat(term(and, no), firm(ops...)) }
	for _, c := range []struct {
		formula []api.Op
		claims  int // with so many it does not hold
		states  int
	}{
		{never(or, and, or, and), 32, 624},
		{never(or, and, or, and), 32, 625}, // 20000
		{never(or, and, or, and), 32, 626},
		{firm(and, and, and, or, and), 59, 338}, // 19942
		{firm(and, and, and, or, and), 59, 339}, // 20001
		{never(or, and, or, and, or), 64, 312},
		{never(or, and, or, and, or), 64, 313},
		{never(or, and, or, and, or), 64, 4096},
	} {
		task := api.Task{Model: chain(c.states), Formula: c.formula}
		v, e := verdict.Check(task)
		want := api.OK
		if c.claims*c.states > 20000 {
			want = api.ErrFull
		}
		told := len(v.Run.Stem) + len(v.Run.Loop)
		if v.Holds || e != want || (told > 0) != (want == api.OK) {
			t.Errorf("Check of %d states and %d claims: %v, a run of %d codes, %v, want %v", c.states, c.claims, v.Holds, told, e, want)
		}
		runs(t, task.Model, lasso(rising(0, c.states-1), codes(c.states-1)), true)
		task.Model.Rules = append(task.Model.Rules, when(term(yes)))
		keeps(t, task, lasso(nil, codes(0)), false, api.OK)
		keeps(t, task, lasso(codes(0, 0, 1), codes(2, 2)), false, api.OK)
	}
	// a formula that would hold is refused, too: that none of its claims can come true is not known before
	task := api.Task{Model: chain(4096), Formula: slices.Concat(term(not), firm(or, or, or, or, or))}
	if v, e := verdict.Check(task); v.Holds || len(v.Run.Loop) != 0 || e != api.ErrFull {
		t.Errorf("Check(%v): %v, %v, want %v", task, v, e, api.ErrFull)
	}
	task.Model = chain(300)
	holds(t, task)
}

// greatest task there is but for its formula: 4096 states with 64 letters, twelve rules, each term as long as it may be.
func greatest(formula ...api.Op) api.Task {
	t := api.Task{Formula: slices.Concat(slices.Repeat(term(not), (api.MaxOps-len(formula))/2*2), formula)}
	long := slices.Repeat(term(add, num(0)), 28)
	for i := range api.MaxVars {
		t.Model.Vars = append(t.Model.Vars, from(string(rune('a'+i)), 0, 3))
		t.Props = append(t.Props, slices.Concat(slices.Repeat(term(not), 56), term(lt, variable(i), num(2))))
	}
	for i := range api.MaxRules {
		r := when(slices.Concat(slices.Repeat(term(not), api.MaxOps-1), term(no)))
		for j := range api.MaxVars {
			by := 0
			if j == i%api.MaxVars {
				by = 1 - 2*(i/api.MaxVars)
			}
			r.Sets = append(r.Sets, set(j, slices.Concat(long, term(add, variable(j), num(by)))...))
		}
		t.Model.Rules = append(t.Model.Rules, r)
	}
	return t
}

// P9.1 to P9.3: as many states, letters and rules as there may be.
func TestGreatest(t *testing.T) {
	run := fails(t, greatest(globally, finally, prop(5)))
	keeps(t, greatest(globally, finally, prop(5)), run, false, api.OK)
	holds(t, greatest(or, globally, prop(4), until, prop(4), not, prop(4)))
	// each variable goes up and down again, one behind the other, again and again
	var loop []int
	for _, by := range codes(1024, 256, 64, 16, 4, 1) {
		loop = append(loop, 0, by, 2*by, 3*by, 2*by, by)
	}
	task := greatest(globally, until, prop(0), not, prop(0))
	runs(t, task.Model, lasso(nil, loop), true)
	runs(t, task.Model, lasso(nil, loop[1:]), false)
	keeps(t, task, lasso(nil, loop), false, api.ErrSize)
	keeps(t, task, lasso(codes(0, 1, 2, 3, 2, 1), loop[:6]), true, api.OK)
	keeps(t, task, lasso(loop[:6], codes(0, 1, 2, 3, 2, 1)), false, api.OK)
	// far longer than there are states
	long := slices.Repeat(loop, 20000)
	runs(t, task.Model, lasso(long, loop), true)
	runs(t, task.Model, lasso(loop, long), true)
	runs(t, task.Model, lasso(long, append(slices.Clone(loop), 2)), false)
	runs(t, task.Model, lasso(slices.Concat(long, codes(0, 2)), loop), false)
}

// P9.2: what is a run, and what is none, written out.
func TestRuns(t *testing.T) {
	for _, c := range []struct {
		m    api.Model
		l    api.Lasso
		want bool
	}{
		{api.Model{}, lasso(nil, codes(0)), true},
		{api.Model{}, lasso(codes(0, 0, 0), codes(0, 0)), true},
		{api.Model{}, lasso(nil, nil), false},
		{api.Model{}, lasso(codes(0), nil), false},
		{api.Model{}, lasso([]int{}, []int{}), false},
		{api.Model{}, lasso(nil, codes(1)), false},
		{counter(false).Model, lasso(codes(0, 1), codes(2)), true},
		{counter(false).Model, lasso(codes(0, 1, 2), codes(2, 2)), true},
		{counter(false).Model, lasso(codes(0, 1, 2), nil), false},
		{counter(false).Model, lasso(nil, codes(0, 1, 2)), false},
		{counter(false).Model, lasso(codes(0), codes(1, 2)), false},
		{counter(false).Model, lasso(codes(0), codes(2)), false},
		{counter(false).Model, lasso(codes(1), codes(2)), false},
		{counter(false).Model, lasso(nil, codes(2)), false},
		{counter(false).Model, lasso(codes(0, 0, 1), codes(2)), false},
		{counter(false).Model, lasso(codes(0, 1), codes(3)), false},
		{counter(false).Model, lasso(codes(0, 1, 3), codes(2)), false},
		{counter(true).Model, lasso(nil, codes(0)), true},
		{counter(true).Model, lasso(codes(0), codes(1)), true},
		{counter(true).Model, lasso(codes(0, 0, 1), codes(1)), true},
		{counter(true).Model, lasso(codes(0, 1), codes(1, 2)), false},
		{swing().Model, lasso(nil, codes(0, 1)), true},
		{swing().Model, lasso(codes(0), codes(1, 0)), true},
		{swing().Model, lasso(codes(0, 1), codes(0, 1, 0, 1)), true},
		{swing().Model, lasso(nil, codes(0, 1, 0)), false},
		{swing().Model, lasso(codes(0), codes(0, 1)), false},
		{swing().Model, lasso(nil, codes(1, 0)), false},
		{fork().Model, lasso(codes(0), codes(1)), true},
		{fork().Model, lasso(codes(0), codes(2)), true},
		{fork().Model, lasso(codes(0), codes(1, 2)), false},
		{fork().Model, lasso(codes(0, 1), codes(2)), false},
		{fork().Model, lasso(nil, codes(0)), false},
	} {
		runs(t, c.m, c.l, c.want)
	}
}

// P9.2: all lassos of few codes, also of such as are no state's.
func TestEveryLasso(t *testing.T) {
	for _, m := range []api.Model{{}, counter(false).Model, counter(true).Model, swing().Model, fork().Model, line(2, to(1)), line(2, to(0), to(1))} {
		found := 0
		for _, l := range everyLasso(5, codes(-1, 0, 1, 2, 3)) {
			want := secondRuns(m, l)
			runs(t, m, l, want)
			if want {
				found++
			}
		}
		if found < 3 {
			t.Errorf("%v: only %d runs were met", m, found)
		}
	}
}

// P9.2: codes that are no state's, at each place of a run.
func TestWrongCodes(t *testing.T) {
	for _, m := range []api.Model{{}, free().Model, counter(true).Model, chain(4096)} {
		run := lasso(codes(0, 0, 0), codes(0, 0))
		m.Rules = append(m.Rules, when(term(yes)))
		task := api.Task{Model: m, Formula: term(yes)}
		runs(t, m, run, true)
		keeps(t, task, run, true, api.OK)
		for _, wrong := range wrongNumbers {
			for place := range 5 {
				l := lasso(slices.Clone(run.Stem), slices.Clone(run.Loop))
				if place < 3 {
					l.Stem[place] = wrong
				} else {
					l.Loop[place-3] = wrong
				}
				runs(t, m, l, false)
				keeps(t, task, l, false, api.ErrNone)
			}
			runs(t, m, lasso(nil, codes(wrong)), false)
			keeps(t, task, lasso(nil, codes(wrong)), false, api.ErrNone)
		}
	}
}

// P9.2: drawn models, with runs of them that are spoilt now and then.
func TestDrawnRuns(t *testing.T) {
	d := die(999)
	right, wrong := 0, 0
	for range 3000 {
		m := d.model()
		l := d.run(m)
		runs(t, m, l, true)
		l = lasso(slices.Clone(l.Stem), slices.Clone(l.Loop))
		states, _ := model.Count(m)
		if at := d.below(len(l.Stem) + len(l.Loop)); at < len(l.Stem) {
			l.Stem[at] = d.below(states+2) - 1
		} else {
			l.Loop[at-len(l.Stem)] = d.below(states+2) - 1
		}
		want := secondRuns(m, l)
		runs(t, m, l, want)
		if want {
			right++
		} else {
			wrong++
		}
	}
	if right < 300 || wrong < 300 {
		t.Errorf("too few were drawn: %d right ones, %d wrong ones", right, wrong)
	}
}

// P9.3: written out.
func TestKeeps(t *testing.T) {
	zero, one, two := lasso(codes(0), codes(0)), lasso(codes(0, 1), codes(1)), lasso(codes(0, 0, 1), codes(2))
	for _, c := range []struct {
		formula         []api.Op
		zero, one, twos bool
	}{
		{term(yes), true, true, true},
		{term(no), false, false, false},
		{term(prop(0)), false, false, false},
		{term(not, prop(0)), true, true, true},
		{term(finally, prop(0)), false, false, true},
		{term(globally, not, prop(0)), true, true, false},
		{term(next, next, next, prop(0)), false, false, true},
		{term(next, next, prop(0)), false, false, false},
		{term(finally, globally, prop(0)), false, false, true},
		{term(next, prop(1)), false, true, false},
		{term(next, next, prop(1)), false, true, true},
		{term(globally, finally, prop(1)), false, true, false},
		{term(until, not, prop(0), prop(1)), false, true, true},
		{term(release, prop(1), not, prop(0)), true, true, true},
		{term(until, not, prop(1), prop(0)), false, false, false},
	} {
		task := counter(true, c.formula...)
		task.Props = terms(is(2), is(1))
		keeps(t, task, zero, c.zero, api.OK)
		keeps(t, task, one, c.one, api.OK)
		keeps(t, task, two, c.twos, api.OK)
	}
	keeps(t, swing(globally, finally, prop(0)), lasso(nil, codes(0, 1)), true, api.OK)
	keeps(t, swing(finally, globally, prop(0)), lasso(nil, codes(0, 1)), false, api.OK)
	// a run that keeps it is one, though others do not, and the other way round
	keeps(t, fork(next, prop(0)), lasso(codes(0), codes(1)), true, api.OK)
	keeps(t, fork(next, prop(0)), lasso(codes(0), codes(2)), false, api.OK)
}

// P9.3: at most MaxWord codes of a stem, and of a loop; just that many are not too many.
func TestHowManyCodes(t *testing.T) {
	task := counter(true, finally, prop(0))
	for stem := range 15 {
		for loop := range 15 {
			up := lasso(make([]int, stem), slices.Repeat(codes(2), loop))
			stays := lasso(make([]int, stem), make([]int, loop))
			if stem > 1 {
				up.Stem[stem-1] = 1
			}
			switch {
			case stem > 12 || loop > 12:
				keeps(t, task, up, false, api.ErrSize)
				keeps(t, task, stays, false, api.ErrSize)
			case loop == 0:
				keeps(t, task, up, false, api.ErrNone)
				keeps(t, task, stays, false, api.ErrNone)
			case stem < 2:
				keeps(t, task, up, false, api.ErrNone)
				keeps(t, task, stays, false, api.OK)
			default:
				keeps(t, task, up, true, api.OK)
				keeps(t, task, stays, false, api.OK)
			}
			runs(t, task.Model, stays, loop > 0)
			runs(t, task.Model, up, loop > 0 && stem > 1)
		}
	}
}

// P9.3: too many codes are told ahead of what is no run.
func TestSizeAheadOfNone(t *testing.T) {
	task := counter(true, yes)
	for _, wrong := range wrongNumbers {
		keeps(t, task, lasso(slices.Repeat(codes(wrong), 13), nil), false, api.ErrSize)
		keeps(t, task, lasso(nil, slices.Repeat(codes(wrong), 13)), false, api.ErrSize)
		keeps(t, task, lasso(codes(wrong), make([]int, 5000)), false, api.ErrSize)
		keeps(t, task, lasso(slices.Repeat(codes(wrong), 12), slices.Repeat(codes(wrong), 12)), false, api.ErrNone)
	}
	keeps(t, task, lasso(make([]int, 12), nil), false, api.ErrNone)
	keeps(t, task, lasso(make([]int, 13), nil), false, api.ErrSize)
	keeps(t, task, lasso(nil, nil), false, api.ErrNone)
}

// P9.3: drawn tasks with drawn runs, right ones and spoilt ones, and some that are too long.
func TestDrawnKeeps(t *testing.T) {
	d := die(9999)
	met := map[api.Errno]int{}
	kept := 0
	for range 5000 {
		m := d.model()
		if d.below(2) == 0 {
			m = d.firmModel()
		}
		task := d.task(m, 1+d.below(4))
		l := d.run(task.Model)
		if d.below(4) == 0 {
			l = lasso(l.Stem, append(slices.Clone(l.Loop), d.below(4)))
		}
		if d.below(20) == 0 {
			task.Formula = task.Formula[:d.below(len(task.Formula))]
		}
		want, wantE := keepsOf(task, l)
		keeps(t, task, l, want, wantE)
		met[wantE]++
		if want {
			kept++
		}
	}
	if kept < 500 || met[api.OK]-kept < 500 || met[api.ErrSize] < 100 || met[api.ErrNone] < 300 || met[api.ErrShort] < 50 {
		t.Errorf("too few were drawn: %d runs keep their formulas; %v", kept, met)
	}
}

// What comes of it: a verdict can be checked by its run; and where it holds no run can be found that does not keep it.
func TestVerdictAndRuns(t *testing.T) {
	d := die(90)
	checked, tried := 0, 0
	for range 1500 {
		task := d.task(d.model(), 1+d.below(3))
		v, _ := verdict.Check(task)
		if !v.Holds && len(v.Run.Stem) <= api.MaxWord && len(v.Run.Loop) <= api.MaxWord {
			keeps(t, task, v.Run, false, api.OK)
			checked++
		}
		run := d.run(task.Model)
		if yes, e := verdict.Keeps(task, run); v.Holds && e == api.OK {
			tried++
			if !yes {
				t.Errorf("Check(%v): it holds, but the run %v does not keep it", task, run)
			}
		}
	}
	if checked < 300 || tried < 300 {
		t.Errorf("only %d runs were checked, and %d tried", checked, tried)
	}
}

// lassos, right ones for some models and wrong ones.
func lassos() []api.Lasso {
	return []api.Lasso{{}, lasso(nil, codes(0)), lasso(codes(0), codes(1)), lasso(codes(0), nil), lasso(make([]int, 13), nil), lasso(nil, make([]int, 13)), lasso(codes(math.MinInt), codes(math.MaxInt))}
}

// wrongModel is refused by every face with the same error, whatever else is wrong.
func wrongModel(t *testing.T, m api.Model, want api.Errno) {
	t.Helper()
	for _, l := range lassos() {
		if yes, e := verdict.Runs(m, l); yes || e != want {
			t.Errorf("Runs(%v, %v): %v, %v, want %v", m, l, yes, e, want)
		}
	}
}

// wrongTask is refused by every face with the same error, whatever else is wrong.
func wrongTask(t *testing.T, task api.Task, want api.Errno) {
	t.Helper()
	if v, e := verdict.Check(task); v.Holds || len(v.Run.Stem) != 0 || len(v.Run.Loop) != 0 || e != want {
		t.Errorf("Check(%v): %v, %v, want %v", task, v, e, want)
	}
	for _, l := range lassos() {
		keeps(t, task, l, false, want)
	}
}

// wrongModels, with what model's Check says of them.
func wrongModels() map[api.Errno][]api.Model {
	rule := when(term(yes))
	return map[api.Errno][]api.Model{
		api.ErrName:  {{Vars: []api.Variable{from("yes", 0, 1)}}, {Vars: []api.Variable{from("", 0, 1)}}},
		api.ErrTwice: {{Vars: []api.Variable{from("x", 0, 1), from("x", 0, 1)}}, line(2, when(term(yes), set(0, num(1)), set(0, num(1))))},
		api.ErrRange: {{Vars: []api.Variable{from("x", 1, 0)}}, {Vars: []api.Variable{{Name: "x", High: 2, Init: 3}}}, {Vars: []api.Variable{from("x", math.MinInt, math.MaxInt)}}, line(2, when(term(yes), set(1, num(1))))},
		api.ErrSize:  {line(65), {Vars: make([]api.Variable, 7)}, {Vars: []api.Variable{from("x", 0, 63), from("y", 0, 63), from("z", 0, 1)}}, line(2, slices.Repeat([]api.Rule{rule}, 13)...)},
		api.ErrShort: {line(2, api.Rule{}), line(2, rule, when(term(yes), set(0)))},
		api.ErrType:  {line(2, when(term(num(1)))), line(2, when(term(no), set(0, yes)))},
		api.ErrForm:  {line(2, rule, when(term(yes, yes)))},
		api.ErrKind:  {line(2, when(term(prop(0))))},
	}
}

// wrongProps for a line, with what model's Props says of them.
func wrongProps() map[api.Errno][][][]api.Op {
	return map[api.Errno][][][]api.Op{
		api.ErrSize:  {slices.Repeat(terms(term(yes)), 7), slices.Repeat(terms(nil), 7), terms(term(yes), slices.Repeat(term(not), 61))},
		api.ErrType:  {terms(term(num(1))), terms(term(yes), term(variable(0))), terms(term(not, num(1)))},
		api.ErrShort: {terms(nil), terms(term(yes), term(not)), terms(term(yes), nil, term(num(1)))},
		api.ErrForm:  {terms(term(yes, yes))},
		api.ErrKind:  {terms(term(prop(0))), terms(term(yes), term(finally, yes)), terms(term(api.Op{}))},
		api.ErrRange: {terms(term(eq, variable(1), num(1))), terms(term(eq, num(1001), num(1))), terms(term(api.Op{Kind: api.Yes, Value: 1}))},
	}
}

// wrongFormulas over two propositions, with what logic's Check says of them.
func wrongFormulas() map[api.Errno][][]api.Op {
	return map[api.Errno][][]api.Op{
		api.ErrShort: {nil, term(until, yes), term(finally)},
		api.ErrForm:  {term(yes, yes), term(next, prop(0), prop(1))},
		api.ErrKind:  {term(num(1)), term(variable(0)), term(eq, num(1), num(1)), term(finally, api.Op{Kind: 19}), term(api.Op{Kind: -1})},
		api.ErrRange: {term(prop(2)), term(prop(-1)), term(finally, prop(math.MaxInt)), term(api.Op{Kind: api.Not, Value: 1}, yes)},
		api.ErrSize:  {append(slices.Repeat(term(next), api.MaxTempo+1), yes), slices.Repeat(term(not), api.MaxOps+1)},
	}
}

// P9.1 to P9.3: what is not right is refused ahead of all else: the Model, then the Props, then the Formula.
func TestWrongTasks(t *testing.T) {
	wrongTask(t, api.Task{}, api.ErrShort)
	two := terms(term(yes), is(1))
	for e, models := range wrongModels() {
		for _, m := range models {
			wrongModel(t, m, e)
			wrongTask(t, api.Task{Model: m, Props: two, Formula: term(yes)}, e)
			wrongTask(t, api.Task{Model: m, Props: slices.Repeat(terms(nil), 7), Formula: term(num(1), num(2))}, e)
		}
	}
	for e, lists := range wrongProps() {
		for _, l := range lists {
			wrongTask(t, api.Task{Model: line(2), Props: l, Formula: term(yes)}, e)
			wrongTask(t, api.Task{Model: line(2), Props: l}, e)
		}
	}
	for e, formulas := range wrongFormulas() {
		for _, f := range formulas {
			wrongTask(t, api.Task{Model: line(2), Props: two, Formula: f}, e)
			wrongTask(t, api.Task{Model: chain(4096), Props: two, Formula: f}, e)
		}
	}
}

// whole list, copied up to its cap.
func whole[T any](l []T) []T { return append([]T(nil), l[:cap(l)]...) }

// cloneOf a task, with the spare room of its lists.
func cloneOf(t api.Task) api.Task {
	c := api.Task{Model: api.Model{Vars: whole(t.Model.Vars), Rules: whole(t.Model.Rules)}, Props: whole(t.Props), Formula: whole(t.Formula)}
	for i, r := range c.Model.Rules {
		c.Model.Rules[i] = api.Rule{Guard: whole(r.Guard), Sets: whole(r.Sets)}
		for j, s := range c.Model.Rules[i].Sets {
			c.Model.Rules[i].Sets[j].Value = whole(s.Value)
		}
	}
	for i, l := range c.Props {
		c.Props[i] = whole(l)
	}
	return c
}

// What is handed in stays as it is, its spare room too.
func TestListsHandedInStay(t *testing.T) {
	up := when(term(lt, variable(0), num(3), num(9))[:3], set(0, add, variable(0), num(1)), set(7), set(1, yes))
	all := api.Task{
		Model:   api.Model{Vars: []api.Variable{from("x", 0, 3), from("y", 0, 1), from("no", 3, 2)}, Rules: []api.Rule{up, to(2), {}}},
		Props:   terms(term(yes, no, yes)[:1], term(eq, variable(0), num(2)), term(num(1))),
		Formula: term(until, prop(0), globally, next, prop(1), finally, prop(2), yes),
	}
	room := codes(0, 2, 4, 5, 7, 7, 7)
	before := cloneOf(all)
	for vars := range len(all.Model.Vars) + 1 {
		for rules := range len(all.Model.Rules) + 1 {
			for props := range len(all.Props) + 1 {
				for many := range len(all.Formula) + 1 {
					task := api.Task{Model: api.Model{Vars: all.Model.Vars[:vars], Rules: slices.Clone(all.Model.Rules[:rules])}, Props: all.Props[:props], Formula: all.Formula[:many]}
					if rules > 0 {
						task.Model.Rules[0].Sets = up.Sets[:1]
					}
					verdict.Check(task)
					for stem := range 4 {
						l := lasso(room[:stem], room[stem:stem+2]) // where the stem's spare room is, there the loop lies
						verdict.Runs(task.Model, l)
						verdict.Keeps(task, l)
						verdict.Keeps(task, lasso(room[:stem], room[:0]))
					}
					if !reflect.DeepEqual(cloneOf(all), before) || !slices.Equal(room, codes(0, 2, 4, 5, 7, 7, 7)) {
						t.Fatalf("%d variables, %d rules, %d propositions and %d ops handed in: %v and %v are left", vars, rules, props, many, all, room)
					}
				}
			}
		}
	}
	// a run, whose stem has the loop in its spare room
	run := codes(0, 0, 1, 2, 2, 9)
	keeps(t, counter(true, finally, prop(0)), lasso(run[:3], run[3:5]), true, api.OK)
	runs(t, counter(true).Model, lasso(run[:3], run[3:5]), true)
	if !slices.Equal(run, codes(0, 0, 1, 2, 2, 9)) {
		t.Errorf("a run handed in became %v", run)
	}
}

// spoilt: a list is filled up to its cap.
func spoilt(l []int) {
	for i := range l[:cap(l)] {
		l[:cap(l)][i] = -7
	}
}

// Answers are new memory, spare room too: what is written there shows in no argument, in no other answer and in no other list.
func TestAnswersAreNew(t *testing.T) {
	d := die(91)
	found := 0
	for range 800 {
		task := d.task(d.model(), 3)
		before := cloneOf(task)
		v, _ := verdict.Check(task)
		later, _ := verdict.Check(task)
		stem, loop := slices.Clone(v.Run.Stem), slices.Clone(v.Run.Loop)
		if len(stem) > 0 {
			found++
		}
		spoilt(v.Run.Stem)
		if !slices.Equal(v.Run.Loop, loop) {
			t.Errorf("behind a change of the stem, the loop %v became %v", loop, v.Run.Loop)
		}
		spoilt(v.Run.Loop)
		again, _ := verdict.Check(task)
		for _, other := range []api.Verdict{later, again} {
			if other.Holds != v.Holds || !slices.Equal(other.Run.Stem, stem) || !slices.Equal(other.Run.Loop, loop) {
				t.Errorf("another answer of Check became %v, want the stem %v and the loop %v", other, stem, loop)
			}
		}
		spoilt(again.Run.Loop)
		spoilt(later.Run.Loop)
		if !slices.Equal(later.Run.Stem, stem) || !slices.Equal(again.Run.Stem, stem) || !reflect.DeepEqual(cloneOf(task), before) {
			t.Errorf("behind a change of loops: %v, %v and %v are left", later, again, task)
		}
	}
	if found < 50 {
		t.Errorf("only %d stems were drawn", found)
	}
}
