package step_test

import (
	"math"
	"reflect"
	"slices"
	"testing"

	"foretell/api"
	"foretell/model"
	"foretell/step"
)

func num(n int) api.Op { return api.Op{Kind: api.Num, Value: n} }

func variable(place int) api.Op { return api.Op{Kind: api.Var, Value: place} }

var (
	add, sub, mul = api.Op{Kind: api.Add}, api.Op{Kind: api.Sub}, api.Op{Kind: api.Mul}
	eq, lt        = api.Op{Kind: api.Eq}, api.Op{Kind: api.Lt}
	and, or, not  = api.Op{Kind: api.And}, api.Op{Kind: api.Or}, api.Op{Kind: api.Not}
	yes, no       = api.Op{Kind: api.Yes}, api.Op{Kind: api.No}
	prop          = api.Op{Kind: api.Prop}
	wrongNumbers  = []int{math.MinInt, math.MinInt + 1, -1 << 32, 1 << 32, math.MaxInt - 1, math.MaxInt}
)

// term of these ops.
func term(l ...api.Op) []api.Op { return l }

// from Low to High, beginning at Low.
func from(name string, low, high int) api.Variable {
	return api.Variable{Name: name, Low: low, High: high, Init: low}
}

// rule with a guard that holds.
func rule(sets ...api.Set) api.Rule { return api.Rule{Guard: term(yes), Sets: sets} }

// when a guard holds.
func when(guard []api.Op, sets ...api.Set) api.Rule { return api.Rule{Guard: guard, Sets: sets} }

// set a variable to what these ops make.
func set(place int, l ...api.Op) api.Set { return api.Set{Var: place, Value: l} }

// million that is still a value; one more is too great.
func million() []api.Op { return term(mul, num(1000), num(1000)) }

// tooGreat on the way, though in the end it makes this number.
func tooGreat(n int) []api.Op {
	return slices.Concat(term(add, sub, add), million(), term(num(1)), million(), term(num(n-1)))
}

// space of the variables x (from 1 to 3) and y (from 0 to 1), with these rules: the codes are 2 * (x - 1) + y.
func space(l ...api.Rule) api.Model {
	return api.Model{Vars: []api.Variable{from("x", 1, 3), from("y", 0, 1)}, Rules: l}
}

// line of one variable from 0 on, with so many states, whose codes are its values.
func line(many int, l ...api.Rule) api.Model {
	return api.Model{Vars: []api.Variable{from("x", 0, many-1)}, Rules: l}
}

// statesOf variables, as lists of values, in the order of their codes.
func statesOf(l []api.Variable) [][]int {
	states := [][]int{{}}
	for _, v := range l {
		var longer [][]int
		for _, state := range states {
			for value := v.Low; value <= v.High; value++ {
				longer = append(longer, append(slices.Clone(state), value))
			}
		}
		states = longer
	}
	return states
}

// codeOf a state, or -1 if there is none.
func codeOf(states [][]int, values []int) int {
	return slices.IndexFunc(states, func(l []int) bool { return slices.Equal(l, values) })
}

// worth of the expression that a list begins with, by the document's words; what is left behind it; and whether it was not refused.
func worth(l []api.Op, env []int) (n int, rest []api.Op, fine bool) {
	op, rest := l[0], l[1:]
	as := func(holds bool) int {
		if holds {
			return 1
		}
		return 0
	}
	switch op.Kind {
	case api.Num:
		return op.Value, rest, true
	case api.Var:
		return env[op.Value], rest, true
	case api.Yes, api.No:
		return as(op.Kind == api.Yes), rest, true
	case api.Not:
		n, rest, fine = worth(rest, env)
		return as(n == 0), rest, fine
	}
	a, rest, fineA := worth(rest, env)
	b, rest, fineB := worth(rest, env)
	n = map[int]int{api.Add: a + b, api.Sub: a - b, api.Mul: a * b, api.Eq: as(a == b), api.Lt: as(a < b), api.And: as(a+b == 2), api.Or: as(a+b > 0)}[op.Kind]
	return n, rest, fineA && fineB && n >= -1000000 && n <= 1000000
}

// holdsOf a truth, by the document's words.
func holdsOf(l []api.Op, env []int) bool {
	n, _, fine := worth(l, env)
	return fine && n == 1
}

// afterOf a rule at a state, by the document's words; -1: it cannot be done.
func afterOf(m api.Model, states [][]int, code int, r api.Rule) int {
	ahead := states[code]
	if !holdsOf(r.Guard, ahead) {
		return -1
	}
	behind := slices.Clone(ahead)
	for _, s := range r.Sets {
		n, _, fine := worth(s.Value, ahead)
		if !fine || n < m.Vars[s.Var].Low || n > m.Vars[s.Var].High {
			return -1
		}
		behind[s.Var] = n
	}
	return codeOf(states, behind)
}

// tableOf all that is next, by the document's words: for each pair of states, does the second one come behind the first?
func tableOf(m api.Model, states [][]int) [][]bool {
	table := make([][]bool, len(states))
	for code := range states {
		table[code] = make([]bool, len(states))
		done := 0
		for _, r := range m.Rules {
			if behind := afterOf(m, states, code, r); behind >= 0 {
				table[code][behind] = true
				done++
			}
		}
		if done == 0 {
			table[code][code] = true
		}
	}
	return table
}

// reachOf a table, by the document's words: what is behind something reached is marked until nothing new is.
func reachOf(table [][]bool, first int) []bool {
	marks := make([]bool, len(table))
	marks[first] = true
	for again := true; again; {
		again = false
		for a := range table {
			for b := range table {
				if marks[a] && table[a][b] && !marks[b] {
					marks[b], again = true, true
				}
			}
		}
	}
	return marks
}

// places of what is marked.
func places(marks []bool) []int {
	l := []int{}
	for place, marked := range marks {
		if marked {
			l = append(l, place)
		}
	}
	return l
}

// after a rule: this code, or this refusal.
func after(t *testing.T, m api.Model, code, rule, want int, wantE api.Errno) {
	t.Helper()
	if n, e := step.After(m, code, rule); n != want || e != wantE {
		t.Errorf("After(%v, %d, %d): %d, %v, want %d, %v", m, code, rule, n, e, want, wantE)
	}
}

// next of a code: just these.
func next(t *testing.T, m api.Model, code int, want ...int) {
	t.Helper()
	if l, e := step.Next(m, code); !slices.Equal(l, want) || e != api.OK {
		t.Errorf("Next(%v, %d): %v, %v, want %v", m, code, l, e, want)
	}
}

// reach just these.
func reach(t *testing.T, m api.Model, want ...int) {
	t.Helper()
	if l, e := step.Reach(m); !slices.Equal(l, want) || e != api.OK {
		t.Errorf("Reach(%v): %v, %v, want %v", m, l, e, want)
	}
}

// letter of a code: just this one.
func letter(t *testing.T, m api.Model, props [][]api.Op, code int, want ...bool) {
	t.Helper()
	if l, e := step.Letter(m, props, code); !slices.Equal(l, want) || e != api.OK {
		t.Errorf("Letter(%v, %v, %d): %v, %v, want %v", m, props, code, l, e, want)
	}
}

// noLetter, but this refusal.
func noLetter(t *testing.T, m api.Model, props [][]api.Op, code int, want api.Errno) {
	t.Helper()
	if l, e := step.Letter(m, props, code); len(l) != 0 || e != want {
		t.Errorf("Letter(%v, %v, %d): %v, %v, want %v", m, props, code, l, e, want)
	}
}

// refused by every face with the same error, whatever else is wrong.
func refused(t *testing.T, m api.Model, want api.Errno) {
	t.Helper()
	for _, code := range []int{0, 1, -1, 5000, math.MaxInt, math.MinInt} {
		for _, rule := range []int{0, 1, -1, 12, math.MaxInt, math.MinInt} {
			after(t, m, code, rule, 0, want)
		}
		if l, e := step.Next(m, code); len(l) != 0 || e != want {
			t.Errorf("Next(%v, %d): %v, %v, want %v", m, code, l, e, want)
		}
		for _, props := range [][][]api.Op{nil, {term(yes)}, {nil}, {term(num(0))}, slices.Repeat([][]api.Op{term(yes)}, 7)} {
			noLetter(t, m, props, code, want)
		}
	}
	if l, e := step.Reach(m); len(l) != 0 || e != want {
		t.Errorf("Reach(%v): %v, %v, want %v", m, l, e, want)
	}
}

// noState by every face that is handed a code.
func noState(t *testing.T, m api.Model, code int) {
	t.Helper()
	for _, rule := range []int{0, len(m.Rules) - 1, len(m.Rules), -1, math.MaxInt, math.MinInt} {
		after(t, m, code, rule, 0, api.ErrState)
	}
	if l, e := step.Next(m, code); len(l) != 0 || e != api.ErrState {
		t.Errorf("Next(%v, %d): %v, %v, want %v", m, code, l, e, api.ErrState)
	}
	noLetter(t, m, nil, code, api.ErrState)
	noLetter(t, m, [][]api.Op{term(yes), term(no)}, code, api.ErrState)
}

// P4.1
func TestAfter(t *testing.T) {
	m := space(
		rule(set(0, add, variable(0), num(1))),
		when(term(lt, variable(0), num(3)), set(1, num(1))),
		rule(),
		rule(set(1, sub, num(1), variable(1)), set(0, sub, num(4), variable(0))),
	)
	for code, want := range [][]int{{2, 1, 0, 5}, {3, 1, 1, 4}, {4, 3, 2, 3}, {5, 3, 3, 2}, {-1, -1, 4, 1}, {-1, -1, 5, 0}} {
		for r, n := range want {
			if n < 0 {
				after(t, m, code, r, 0, api.ErrNone)
			} else {
				after(t, m, code, r, n, api.OK)
			}
		}
	}
	// without variables there is one state
	after(t, api.Model{Rules: []api.Rule{rule()}}, 0, 0, 0, api.OK)
	after(t, api.Model{Rules: []api.Rule{when(term(no)), rule()}}, 0, 0, 0, api.ErrNone)
	after(t, api.Model{Rules: []api.Rule{when(term(no)), rule()}}, 0, 1, 0, api.OK)
}

// P4.1: all at once, in whatever order the Sets stand.
func TestSetsAtOnce(t *testing.T) {
	three := []api.Variable{from("a", 0, 3), from("b", 0, 3), from("c", 0, 3)}
	turn := []api.Set{set(0, variable(1)), set(1, variable(2)), set(2, variable(0))}
	for _, order := range [][]int{{0, 1, 2}, {0, 2, 1}, {1, 0, 2}, {1, 2, 0}, {2, 0, 1}, {2, 1, 0}} {
		m := api.Model{Vars: three, Rules: []api.Rule{rule(turn[order[0]], turn[order[1]], turn[order[2]])}}
		for code := range 64 {
			a, b, c := code/16, code/4%4, code%4
			after(t, m, code, 0, 16*b+4*c+a, api.OK)
		}
	}
	// what a Set makes is seen by no other, even if it could not stand
	m := api.Model{Vars: three, Rules: []api.Rule{rule(set(0, add, variable(0), num(1)), set(1, add, variable(0), num(1)))}}
	after(t, m, 0, 0, 16+4, api.OK)
	after(t, m, 32+3, 0, 48+12+3, api.OK)
	after(t, m, 48, 0, 0, api.ErrNone)
	// six of them
	six := api.Model{}
	var all []api.Set
	for i := range api.MaxVars {
		six.Vars = append(six.Vars, from(string(rune('a'+i)), 0, 3))
		all = append(all, set(i, variable((i+1)%api.MaxVars)))
	}
	six.Rules = []api.Rule{rule(all...)}
	after(t, six, 0b11_00_01_10_00_01, 0, 0b00_01_10_00_01_11, api.OK)
}

// P4.1: the edges of what a variable may have.
func TestBounds(t *testing.T) {
	for _, v := range []api.Variable{from("x", -2, 2), from("x", 5, 9), from("x", -1000, -996), from("x", 996, 1000), from("x", 4, 4)} {
		m := api.Model{Vars: []api.Variable{from("w", 0, 2), v, from("z", 0, 1)}}
		span := v.High - v.Low + 1
		for off := -3; off <= span+3; off++ {
			value := []api.Op{add, num(v.Low), num(off)}
			m.Rules = []api.Rule{rule(set(1, value...)), rule(set(0, num(2)), set(1, value...)), rule(set(1, value...), set(2, num(1)))}
			if off < 0 || off >= span {
				after(t, m, 0, 0, 0, api.ErrNone)
				after(t, m, 0, 1, 0, api.ErrNone)
				after(t, m, 0, 2, 0, api.ErrNone)
				next(t, m, 0, 0)
				continue
			}
			after(t, m, 0, 0, 2*off, api.OK)
			after(t, m, 0, 1, 2*(2*span+off), api.OK)
			after(t, m, 0, 2, 2*off+1, api.OK)
		}
	}
	// what would be the code of another state is none, if a value is outside its bounds
	m := space(rule(set(1, num(2))), rule(set(1, num(-1))), rule(set(0, num(4))), rule(set(0, num(0)), set(1, num(2))))
	for code := range 6 {
		for r := range 4 {
			after(t, m, code, r, 0, api.ErrNone)
		}
		next(t, m, code, code)
	}
}

// P4.1: what Eval refuses cannot be done.
func TestRefusedByEval(t *testing.T) {
	over := slices.Concat(term(eq, add), million(), term(num(1), num(0)))
	edge := slices.Concat(term(eq), million(), million())
	guards := [][]api.Op{
		over, slices.Concat(term(not), over), slices.Concat(term(or, yes), over), slices.Concat(term(or), over, term(yes)), slices.Concat(term(and, no), over),
		slices.Concat(term(not, and, no), over), slices.Concat(term(eq), tooGreat(1), term(num(1))), slices.Concat(term(lt), tooGreat(1), term(num(2))),
	}
	for _, guard := range guards {
		m := space(when(guard), when(guard, set(1, num(1))), rule(set(1, num(1))))
		after(t, m, 0, 0, 0, api.ErrNone)
		after(t, m, 0, 1, 0, api.ErrNone)
		next(t, m, 0, 1)
		next(t, space(when(guard, set(1, num(1)))), 0, 0)
	}
	after(t, space(when(edge, set(1, num(1)))), 0, 0, 1, api.OK)
	m := space(
		rule(set(0, tooGreat(2)...)), rule(set(1, num(1)), set(0, tooGreat(2)...)), rule(set(0, tooGreat(2)...), set(1, num(1))),
		rule(set(0, slices.Concat(term(add, sub), million(), million(), term(num(2)))...)),
	)
	for r := range 3 {
		after(t, m, 0, r, 0, api.ErrNone)
	}
	after(t, m, 0, 3, 2, api.OK)
	// it hangs on the state
	m = line(3, rule(set(0, slices.Concat(term(sub, sub, add), million(), term(variable(0)), million(), term(variable(0)))...)))
	after(t, m, 0, 0, 0, api.OK)
	after(t, m, 1, 0, 0, api.ErrNone)
	after(t, m, 2, 0, 0, api.ErrNone)
}

// P4.1: a guard that does not hold is enough, whatever the Sets make.
func TestGuardsOfAfter(t *testing.T) {
	m := line(5, when(term(lt, variable(0), num(2)), set(0, num(4))), when(term(eq, variable(0), num(2)), set(0, num(9))), when(term(not, eq, variable(0), num(4)), set(0, tooGreat(0)...)))
	for code := range 5 {
		if code < 2 {
			after(t, m, code, 0, 4, api.OK)
		} else {
			after(t, m, code, 0, 0, api.ErrNone)
		}
		after(t, m, code, 1, 0, api.ErrNone)
		after(t, m, code, 2, 0, api.ErrNone)
	}
}

// P4.1 to P4.3: codes of no state.
func TestNoState(t *testing.T) {
	for _, m := range []api.Model{{}, {Rules: []api.Rule{rule()}}, space(), space(rule(), when(term(no))), line(64, rule(set(0, num(1)))), {Vars: []api.Variable{from("x", 4, 4)}},
		{Vars: []api.Variable{from("x", 0, 63), from("y", 0, 63)}}} {
		many := len(statesOf(m.Vars))
		for _, code := range append([]int{-1, -2, -many, many, many + 1, 2 * many, 4096, 4097}, wrongNumbers...) {
			noState(t, m, code)
		}
		if _, e := step.Next(m, many-1); e != api.OK {
			t.Errorf("Next(%v, %d): %v", m, many-1, e)
		}
		letter(t, m, nil, many-1)
	}
}

// P4.1: places of no rule, ahead of whether it could be done.
func TestNoRule(t *testing.T) {
	for many := range api.MaxRules + 1 {
		m := space(slices.Repeat([]api.Rule{when(term(no))}, many)...)
		for _, r := range append([]int{-1, -2, -many - 1, many, many + 1, many + 20}, wrongNumbers...) {
			after(t, m, 0, r, 0, api.ErrRange)
			after(t, m, 5, r, 0, api.ErrRange)
		}
		for r := range many {
			after(t, m, 5, r, 0, api.ErrNone)
		}
	}
}

// P4.2
func TestNext(t *testing.T) {
	to := func(n int) api.Rule { return rule(set(0, num(n))) }
	// rising, each once
	next(t, line(9, to(7), to(2), to(5)), 4, 2, 5, 7)
	next(t, line(9, to(7), to(2), to(7), to(2), to(0)), 4, 0, 2, 7)
	next(t, line(9, to(3), to(3), to(3)), 8, 3)
	next(t, line(64, to(63), to(9), to(10), to(8), to(11), to(7), to(12), to(6), to(13), to(5), to(14), to(0)), 1, 0, 5, 6, 7, 8, 9, 10, 11, 12, 13, 14, 63)
	// the state's own code only where a rule leads there, or none can be done
	next(t, line(9, to(2), to(4)), 4, 2, 4)
	next(t, line(9, to(2), rule()), 4, 2, 4)
	next(t, line(9, rule(), to(6)), 4, 4, 6)
	next(t, line(9, to(2)), 4, 2)
	next(t, line(9, to(2), to(9), when(term(no))), 4, 2)
	next(t, line(9, to(9), when(term(no)), to(-1), rule(set(0, tooGreat(3)...))), 4, 4)
	next(t, line(9), 0, 0)
	next(t, line(9), 8, 8)
	next(t, api.Model{}, 0, 0)
	next(t, api.Model{Rules: []api.Rule{rule(), when(term(no))}}, 0, 0)
	next(t, space(rule(set(0, variable(1))), rule(set(1, sub, variable(0), num(1)))), 3, 2*(1-1)+1, 3)
}

// P4.3
func TestLetter(t *testing.T) {
	m := space(rule(set(0, num(1))))
	props := [][]api.Op{term(lt, variable(0), num(2)), term(eq, variable(0), variable(1)), term(yes), term(no), term(not, eq, variable(1), num(0))}
	for code, state := range statesOf(m.Vars) {
		letter(t, m, props, code, state[0] < 2, state[0] == state[1], true, false, state[1] != 0)
		letter(t, m, props[1:2], code, state[0] == state[1])
		letter(t, m, nil, code)
		letter(t, m, [][]api.Op{}, code)
	}
	letter(t, api.Model{}, [][]api.Op{term(yes), term(no), term(not, no)}, 0, true, false, true)
	// each by itself, and as many as may be
	letter(t, m, [][]api.Op{term(yes), term(yes), term(no), term(no), term(yes), term(no)}, 5, true, true, false, false, true, false)
	// what Eval refuses does not hold, and leaves the others as they are
	over := slices.Concat(term(lt, num(0)), tooGreat(1))
	letter(t, m, [][]api.Op{term(yes), over, slices.Concat(term(not), over), slices.Concat(term(or, yes), over), slices.Concat(term(not, and, no), over), term(yes)}, 2, true, false, false, false, false, true)
	// it hangs on the state
	at := slices.Concat(term(lt, num(0), add), million(), term(variable(0)))
	letter(t, api.Model{Vars: []api.Variable{from("x", -1, 1)}}, [][]api.Op{at}, 0, true)
	letter(t, api.Model{Vars: []api.Variable{from("x", -1, 1)}}, [][]api.Op{at}, 1, true)
	letter(t, api.Model{Vars: []api.Variable{from("x", -1, 1)}}, [][]api.Op{at}, 2, false)
}

// P4.3: what Props refuses is told ahead of a code of no state.
func TestWrongPropositions(t *testing.T) {
	m := space()
	for _, c := range []struct {
		l []api.Op
		e api.Errno
	}{
		{term(num(1)), api.ErrType}, {term(variable(0)), api.ErrType}, {nil, api.ErrShort}, {term(not), api.ErrShort}, {term(yes, yes), api.ErrForm}, {term(api.Op{}), api.ErrKind},
		{term(prop), api.ErrKind}, {term(not, num(1)), api.ErrType}, {term(eq, variable(2), num(1)), api.ErrRange}, {term(eq, num(1001), num(1)), api.ErrRange}, {slices.Repeat(term(not), 61), api.ErrSize},
	} {
		for _, code := range append([]int{0, 5, 6, -1}, wrongNumbers...) {
			noLetter(t, m, [][]api.Op{c.l}, code, c.e)
			noLetter(t, m, [][]api.Op{term(yes), c.l}, code, c.e)
			noLetter(t, m, [][]api.Op{c.l, nil}, code, c.e)
			noLetter(t, m, slices.Repeat([][]api.Op{c.l}, 7), code, api.ErrSize)
		}
	}
	six := slices.Repeat([][]api.Op{term(yes)}, api.MaxProps)
	letter(t, m, six, 5, true, true, true, true, true, true)
	noLetter(t, m, six, 6, api.ErrState)
	noLetter(t, m, append(six, term(yes)), 5, api.ErrSize)
	noLetter(t, m, append(six, term(yes)), 6, api.ErrSize)
}

// P4.4
func TestReach(t *testing.T) {
	to := func(guard []api.Op, l ...api.Op) api.Rule { return when(guard, set(0, l...)) }
	up := to(term(yes), add, variable(0), num(1))
	begin := func(m api.Model, init int) api.Model {
		m.Vars[0].Init = init
		return m
	}
	reach(t, api.Model{}, 0)
	reach(t, api.Model{Rules: []api.Rule{rule()}}, 0)
	reach(t, line(9), 0)
	reach(t, begin(line(9), 8), 8)
	reach(t, line(5, up), 0, 1, 2, 3, 4)
	reach(t, begin(line(5, up), 3), 3, 4)
	reach(t, line(9, to(term(yes), add, variable(0), num(3))), 0, 3, 6)
	reach(t, line(9, to(term(yes), add, variable(0), num(3)), to(term(eq, variable(0), num(6)), num(1))), 0, 1, 3, 4, 6, 7)
	// round and round, down, and what is met late but lies low
	reach(t, begin(line(6, up, to(term(eq, variable(0), num(5)), num(2))), 4), 2, 3, 4, 5)
	reach(t, begin(line(6, to(term(yes), sub, variable(0), num(1))), 3), 0, 1, 2, 3)
	reach(t, begin(line(64, to(term(eq, variable(0), num(40)), num(63)), to(term(eq, variable(0), num(63)), num(2)), to(term(eq, variable(0), num(2)), num(50))), 40), 2, 40, 50, 63)
	// what no way leads to is left out, though a rule could be done there
	reach(t, line(9, to(term(lt, num(4), variable(0)), num(7)), to(term(lt, variable(0), num(2)), add, variable(0), num(1))), 0, 1, 2)
	// a rule that cannot be done leads nowhere
	reach(t, line(9, to(term(yes), num(9)), to(term(yes), tooGreat(3)...), to(term(no), num(5))), 0)
	// the first one is reached, even if nothing leads back to it
	reach(t, line(9, to(term(yes), num(4))), 0, 4)
	reach(t, begin(space(rule(set(0, num(1)), set(1, num(1)))), 2), 1, 2)
	// a swap
	swap := api.Model{Vars: []api.Variable{{Name: "x", High: 2, Init: 2}, {Name: "y", High: 2}}, Rules: []api.Rule{rule(set(0, variable(1)), set(1, variable(0)))}}
	reach(t, swap, 2, 6)
}

// P4.4: as many states and ways as there may be.
func TestReachOfTheGreatest(t *testing.T) {
	m := api.Model{Vars: []api.Variable{from("x", 0, 63), from("y", 0, 63)}}
	var all []int
	for code := range api.MaxStates {
		all = append(all, code)
	}
	m.Rules = []api.Rule{rule(set(0, add, variable(0), num(1))), rule(set(1, add, variable(1), num(1)))}
	reach(t, m, all...)
	// one long way through all of them
	m.Rules = []api.Rule{rule(set(1, add, variable(1), num(1))), when(term(eq, variable(1), num(63)), set(0, add, variable(0), num(1)), set(1, num(0)))}
	reach(t, m, all...)
	m.Vars[0].Init, m.Vars[1].Init = 63, 62
	reach(t, m, 4094, 4095)
}

// P4.4: as many rules and Sets as there may be, each term as long as it may be; each rule moves one variable up or down.
func TestReachByLongRules(t *testing.T) {
	m := api.Model{}
	for i := range api.MaxVars {
		m.Vars = append(m.Vars, from(string(rune('a'+i)), 0, 3))
	}
	for i := range api.MaxRules {
		r := when(slices.Concat(slices.Repeat(term(not), api.MaxOps-1), term(no)))
		for j := range api.MaxVars {
			by := 0
			if j == i%api.MaxVars {
				by = 1 - 2*(i/api.MaxVars)
			}
			r.Sets = append(r.Sets, set(j, slices.Concat(slices.Repeat(term(add, num(0)), 28), term(add, variable(j), num(by)))...))
		}
		m.Rules = append(m.Rules, r)
	}
	var all []int
	for code := range api.MaxStates {
		all = append(all, code)
	}
	reach(t, m, all...)
	next(t, m, 0, 1, 4, 16, 64, 256, 1024)
	next(t, m, 4095, 4095-1024, 4095-256, 4095-64, 4095-16, 4095-4, 4095-1)
}

// P3.4: a model that is not right is refused ahead of all else.
func TestWrongModels(t *testing.T) {
	for _, c := range []struct {
		m api.Model
		e api.Errno
	}{
		{api.Model{Vars: []api.Variable{from("yes", 0, 1)}}, api.ErrName},
		{api.Model{Vars: []api.Variable{from("x", 0, 1), from("x", 0, 1)}}, api.ErrTwice},
		{api.Model{Vars: []api.Variable{from("x", 1, 0)}}, api.ErrRange},
		{api.Model{Vars: []api.Variable{from("x", math.MinInt, math.MaxInt)}}, api.ErrRange},
		{api.Model{Vars: []api.Variable{{Name: "x", High: 2, Init: 3}}}, api.ErrRange},
		{api.Model{Vars: []api.Variable{from("x", 0, 64)}}, api.ErrSize},
		{api.Model{Vars: make([]api.Variable, 7)}, api.ErrSize},
		{api.Model{Vars: []api.Variable{from("x", 0, 63), from("y", 0, 63), from("z", 0, 1)}}, api.ErrSize},
		{space(slices.Repeat([]api.Rule{rule()}, 13)...), api.ErrSize},
		{space(api.Rule{}), api.ErrShort},
		{space(rule(), when(term(num(1)))), api.ErrType},
		{space(rule(), when(term(yes, yes))), api.ErrForm},
		{space(rule(), when(term(prop))), api.ErrKind},
		{space(rule(set(2, num(1)))), api.ErrRange},
		{space(rule(set(-1, num(1)))), api.ErrRange},
		{space(rule(set(0, num(1)), set(0, num(1)))), api.ErrTwice},
		{space(rule(set(0, yes))), api.ErrType},
		{space(rule(set(0, num(1001)))), api.ErrRange},
		{space(rule(), rule(set(0))), api.ErrShort},
		// a rule that could never be done is looked at, too
		{space(when(term(no), set(0, yes))), api.ErrType},
		{space(rule(slices.Repeat([]api.Set{set(0, num(1))}, 7)...)), api.ErrSize},
	} {
		refused(t, c.m, c.e)
	}
}

// die: numbers that look drawn, the same each time.
type die uint64

func (d *die) below(most int) int {
	*d = *d*6364136223846793005 + 1442695040888963407
	return int(uint64(*d>>33) % uint64(most))
}

// number over so many variables that looks drawn, now and then too great.
func (d *die) number(many, deep int) []api.Op {
	kind := d.below(8)
	switch {
	case kind == 7 && deep > 0 && d.below(6) == 0:
		return tooGreat(d.below(5) - 2)
	case (kind < 3 || deep == 0) && many > 0:
		return term(variable(d.below(many)))
	case kind < 5 || deep == 0:
		return term(num(d.below(7) - 2))
	}
	return slices.Concat(term([]api.Op{add, sub, mul}[kind-5]), d.number(many, deep-1), d.number(many, deep-1))
}

// truth over so many variables that looks drawn.
func (d *die) truth(many, deep int) []api.Op {
	switch kind := d.below(8); {
	case kind == 0 || deep == 0:
		return term([]api.Op{yes, yes, no}[d.below(3)])
	case kind == 1:
		return slices.Concat(term(not), d.truth(many, deep-1))
	case kind == 2:
		return slices.Concat(term([]api.Op{and, or}[d.below(2)]), d.truth(many, deep-1), d.truth(many, deep-1))
	}
	return slices.Concat(term([]api.Op{eq, lt, lt}[d.below(3)]), d.number(many, 1), d.number(many, 1))
}

// model that looks drawn.
func (d *die) model() api.Model {
	m := api.Model{}
	for i := range d.below(4) {
		v := from(string(rune('a'+i)), d.below(5)-2, 0)
		v.High = v.Low + d.below(5)
		v.Init = v.Low + d.below(v.High-v.Low+1)
		m.Vars = append(m.Vars, v)
	}
	for range d.below(6) {
		r := api.Rule{Guard: d.truth(len(m.Vars), 2)}
		if len(m.Vars) > 0 {
			first := d.below(len(m.Vars))
			for i := range d.below(len(m.Vars) + 1) {
				r.Sets = append(r.Sets, set((first+i)%len(m.Vars), d.number(len(m.Vars), 1)...))
			}
		}
		m.Rules = append(m.Rules, r)
	}
	return m
}

// P4.1 to P4.4: drawn models against the document's words, at each state.
func TestDrawn(t *testing.T) {
	d := die(4)
	done, not, many, stays := 0, 0, 0, 0
	for range 3000 {
		m := d.model()
		states := statesOf(m.Vars)
		table := tableOf(m, states)
		props := [][]api.Op{}
		for range d.below(4) {
			props = append(props, d.truth(len(m.Vars), 2))
		}
		for code, state := range states {
			stay := true
			for r := range m.Rules {
				if n := afterOf(m, states, code, m.Rules[r]); n < 0 {
					not++
					after(t, m, code, r, 0, api.ErrNone)
				} else {
					done++
					stay = false
					after(t, m, code, r, n, api.OK)
				}
			}
			if stay {
				stays++
			}
			next(t, m, code, places(table[code])...)
			marks := []bool{}
			for _, l := range props {
				marks = append(marks, holdsOf(l, state))
			}
			letter(t, m, props, code, marks...)
		}
		first, _ := model.First(m)
		reached := places(reachOf(table, first))
		reach(t, m, reached...)
		if len(reached) > 1 && len(reached) < len(states) {
			many++
		}
		for _, code := range []int{-1, len(states)} {
			noState(t, m, code)
		}
		if t.Failed() {
			t.Fatal("a drawn model is not as it should be")
		}
	}
	if done < 5000 || not < 5000 || many < 200 || stays < 1000 {
		t.Errorf("too few were drawn: %d rules done, %d not, %d models with some states reached, %d states that stay", done, not, many, stays)
	}
}

// What comes of it: each state has a next one; what is reached reaches on.
func TestWhatComesOfIt(t *testing.T) {
	d := die(44)
	for range 300 {
		m := d.model()
		reached, e := step.Reach(m)
		if e != api.OK || !slices.IsSorted(reached) {
			t.Fatalf("Reach(%v): %v, %v", m, reached, e)
		}
		for code := range statesOf(m.Vars) {
			l, e := step.Next(m, code)
			if e != api.OK || len(l) == 0 {
				t.Errorf("Next(%v, %d): %v, %v", m, code, l, e)
			}
			for _, behind := range l {
				if slices.Contains(reached, code) && !slices.Contains(reached, behind) {
					t.Errorf("Reach(%v): %v has %d, but not %d behind it", m, reached, code, behind)
				}
			}
		}
	}
}

// whole list, copied up to its cap.
func whole[T any](l []T) []T { return append([]T(nil), l[:cap(l)]...) }

// cloneOf a model, with the spare room of its lists.
func cloneOf(m api.Model) api.Model {
	c := api.Model{Vars: whole(m.Vars), Rules: whole(m.Rules)}
	for i, r := range c.Rules {
		c.Rules[i] = api.Rule{Guard: whole(r.Guard), Sets: whole(r.Sets)}
		for j, s := range c.Rules[i].Sets {
			c.Rules[i].Sets[j].Value = whole(s.Value)
		}
	}
	return c
}

// What is handed in stays as it is, its spare room too.
func TestListsHandedInStay(t *testing.T) {
	all := space(rule(set(0, add, variable(0), num(1)), set(1, variable(0)), set(7)), when(term(lt, variable(0), num(3)), set(1, num(1))), rule(set(0, num(1)), set(0)), api.Rule{})
	all.Vars = append(all.Vars, from("z", -1, 4), from("no", 3, 2))
	props := [][]api.Op{term(yes), term(eq, variable(0), num(2)), term(not, no)}
	before := cloneOf(all)
	for many := range len(all.Vars) + 1 {
		for laws := range len(all.Rules) + 1 {
			for sets := range 4 {
				m := api.Model{Vars: all.Vars[:many], Rules: slices.Clone(all.Rules[:laws])}
				if laws > 0 {
					m.Rules[0].Sets = m.Rules[0].Sets[:sets]
				}
				step.After(m, 1, 0)
				step.After(m, 1, 1)
				step.Next(m, 1)
				step.Letter(m, props[:2], 1)
				step.Reach(m)
				if !reflect.DeepEqual(cloneOf(all), before) {
					t.Fatalf("%d variables and %d rules handed in: %v is left", many, laws, all)
				}
			}
		}
	}
	if !reflect.DeepEqual(props, [][]api.Op{term(yes), term(eq, variable(0), num(2)), term(not, no)}) {
		t.Errorf("propositions handed in: %v are left", props)
	}
}

// spoilt: a list is filled up to its cap.
func spoilt[T any](l []T, with T) {
	for i := range l[:cap(l)] {
		l[:cap(l)][i] = with
	}
}

// Answers are new memory: what is done with one is seen in no other, and what was handed in stays.
func TestAnswersAreNew(t *testing.T) {
	m := space(rule(set(0, num(3))), rule(set(1, num(1))), rule(set(0, num(2))))
	props := [][]api.Op{term(yes), term(lt, variable(0), num(2)), term(no)}
	before := cloneOf(m)
	a, _ := step.Next(m, 0)
	b, _ := step.Next(m, 0)
	spoilt(a, 99)
	next(t, m, 0, 1, 2, 4)
	c, _ := step.Letter(m, props, 0)
	d, _ := step.Letter(m, props, 0)
	spoilt(c, true)
	letter(t, m, props, 0, true, true, false)
	e, _ := step.Reach(m)
	f, _ := step.Reach(m)
	spoilt(e, 99)
	reach(t, m, 0, 1, 2, 3, 4, 5)
	if !slices.Equal(b, []int{1, 2, 4}) || !slices.Equal(d, []bool{true, true, false}) || !slices.Equal(f, []int{0, 1, 2, 3, 4, 5}) {
		t.Errorf("behind a change of other answers: %v, %v and %v", b, d, f)
	}
	if !reflect.DeepEqual(cloneOf(m), before) || !reflect.DeepEqual(props, [][]api.Op{term(yes), term(lt, variable(0), num(2)), term(no)}) {
		t.Errorf("behind a change of answers: %v and %v are left", m, props)
	}
}
