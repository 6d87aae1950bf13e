package model_test

import (
	"math"
	"reflect"
	"slices"
	"strings"
	"testing"

	"foretell/api"
	"foretell/expr"
	"foretell/model"
)

func num(n int) api.Op { return api.Op{Kind: api.Num, Value: n} }

func variable(place int) api.Op { return api.Op{Kind: api.Var, Value: place} }

var (
	add, mul     = api.Op{Kind: api.Add}, api.Op{Kind: api.Mul}
	eq, lt       = api.Op{Kind: api.Eq}, api.Op{Kind: api.Lt}
	and, not     = api.Op{Kind: api.And}, api.Op{Kind: api.Not}
	yes, no      = api.Op{Kind: api.Yes}, api.Op{Kind: api.No}
	next, prop   = api.Op{Kind: api.Next}, api.Op{Kind: api.Prop}
	wrongNumbers = []int{math.MinInt, math.MinInt + 1, -1 << 32, 1 << 32, math.MaxInt - 1, math.MaxInt}
)

// term of these ops.
func term(l ...api.Op) []api.Op { return l }

// from Low to High, beginning at Low.
func from(name string, low, high int) api.Variable {
	return api.Variable{Name: name, Low: low, High: high, Init: low}
}

// vars alone make a model.
func vars(l ...api.Variable) api.Model { return api.Model{Vars: l} }

// rules over the variables x (from 0 to 3) and y (from 0 to 1).
func rules(l ...api.Rule) api.Model {
	return api.Model{Vars: []api.Variable{from("x", 0, 3), from("y", 0, 1)}, Rules: l}
}

// rule with a guard that holds.
func rule(sets ...api.Set) api.Rule { return api.Rule{Guard: term(yes), Sets: sets} }

// set a variable to what these ops make.
func set(place int, l ...api.Op) api.Set { return api.Set{Var: place, Value: l} }

// nameOf a text, by the document's words.
func nameOf(s string) bool {
	if s == "" || len(s) > 8 || s == "yes" || s == "no" || strings.Contains("0123456789", s[:1]) {
		return false
	}
	return strings.Trim(s, "abcdefghijklmnopqrstuvwxyz0123456789") == ""
}

// statesOf variables, as lists of values, in the order of their codes.
func statesOf(l []api.Variable) [][]int {
	states := [][]int{{}}
	for _, v := range l {
		var longer [][]int
		for _, state := range states {
			for value := v.Low; value <= v.High; value++ {
				longer = append(longer, append(slices.Clone(state), value))
			}
		}
		states = longer
	}
	return states
}

// varsOf a model, by the document's words.
func varsOf(l []api.Variable) api.Errno {
	if len(l) > 6 {
		return api.ErrSize
	}
	for i, v := range l {
		switch {
		case !nameOf(v.Name):
			return api.ErrName
		case slices.ContainsFunc(l[:i], func(o api.Variable) bool { return o.Name == v.Name }):
			return api.ErrTwice
		case v.Low < -1000, v.High > 1000, v.High < v.Low, v.Init < v.Low, v.Init > v.High:
			return api.ErrRange
		case v.High-v.Low > 63, len(statesOf(l[:i+1])) > 4096:
			return api.ErrSize
		}
	}
	return api.OK
}

// typedOf an expression, by the document's words.
func typedOf(l []api.Op, many int, truth bool) api.Errno {
	is, e := expr.Check(l, many)
	if e == api.OK && is != truth {
		return api.ErrType
	}
	return e
}

// ruleOf a model, by the document's words.
func ruleOf(r api.Rule, many int) api.Errno {
	if len(r.Sets) > 6 {
		return api.ErrSize
	}
	if e := typedOf(r.Guard, many, true); e != api.OK {
		return e
	}
	for i, s := range r.Sets {
		if s.Var < 0 || s.Var >= many {
			return api.ErrRange
		}
		if slices.ContainsFunc(r.Sets[:i], func(o api.Set) bool { return o.Var == s.Var }) {
			return api.ErrTwice
		}
		if e := typedOf(s.Value, many, false); e != api.OK {
			return e
		}
	}
	return api.OK
}

// checkOf a model, by the document's words.
func checkOf(m api.Model) api.Errno {
	if e := varsOf(m.Vars); e != api.OK {
		return e
	}
	if len(m.Rules) > 12 {
		return api.ErrSize
	}
	for _, r := range m.Rules {
		if e := ruleOf(r, len(m.Vars)); e != api.OK {
			return e
		}
	}
	return api.OK
}

// refused by every face with the same error, whatever else is wrong.
func refused(t *testing.T, m api.Model, want api.Errno) {
	t.Helper()
	if e := model.Check(m); e != want {
		t.Errorf("Check(%v): %v, want %v", m, e, want)
	}
	for _, l := range [][][]api.Op{nil, {term(yes)}, {nil}, {term(num(0))}, slices.Repeat([][]api.Op{term(yes)}, 7)} {
		if e := model.Props(m, l); e != want {
			t.Errorf("Props(%v, %v): %v, want %v", m, l, e, want)
		}
	}
	if n, e := model.Count(m); n != 0 || e != want {
		t.Errorf("Count(%v): %d, %v, want %v", m, n, e, want)
	}
	inits := make([]int, len(m.Vars))
	for i, v := range m.Vars {
		inits[i] = v.Init
	}
	for _, values := range [][]int{inits, nil, {5000}, append(slices.Clone(inits), 0)} {
		if n, e := model.Code(m, values); n != 0 || e != want {
			t.Errorf("Code(%v, %v): %d, %v, want %v", m, values, n, e, want)
		}
	}
	for _, code := range []int{0, 1, -1, math.MaxInt, math.MinInt} {
		if l, e := model.Values(m, code); len(l) != 0 || e != want {
			t.Errorf("Values(%v, %d): %v, %v, want %v", m, code, l, e, want)
		}
	}
	if n, e := model.First(m); n != 0 || e != want {
		t.Errorf("First(%v): %d, %v, want %v", m, n, e, want)
	}
}

// right by every face: each state is held against the list of all.
func right(t *testing.T, m api.Model) {
	t.Helper()
	if e := model.Check(m); e != api.OK {
		t.Errorf("Check(%v): %v", m, e)
	}
	if e := model.Props(m, nil); e != api.OK {
		t.Errorf("Props(%v) of none: %v", m, e)
	}
	states := statesOf(m.Vars)
	if n, e := model.Count(m); n != len(states) || e != api.OK {
		t.Errorf("Count(%v): %d, %v, want %d", m, n, e, len(states))
	}
	inits := []int{}
	for _, v := range m.Vars {
		inits = append(inits, v.Init)
	}
	for code, state := range states {
		if n, e := model.Code(m, state); n != code || e != api.OK {
			t.Errorf("Code(%v, %v): %d, %v, want %d", m, state, n, e, code)
		}
		if l, e := model.Values(m, code); !slices.Equal(l, state) || e != api.OK {
			t.Errorf("Values(%v, %d): %v, %v, want %v", m, code, l, e, state)
		}
		if slices.Equal(state, inits) {
			if n, e := model.First(m); n != code || e != api.OK {
				t.Errorf("First(%v): %d, %v, want %d", m, n, e, code)
			}
		}
	}
}

// hold a model against the document's words.
func hold(t *testing.T, m api.Model) api.Errno {
	t.Helper()
	e := checkOf(m)
	if e == api.OK {
		right(t, m)
	} else {
		refused(t, m, e)
	}
	return e
}

// P3.1
func TestNames(t *testing.T) {
	for _, name := range []string{"a", "z", "m", "a0", "z9", "a1b2c3d4", "abcdefgh", "zzzzzzzz", "ye", "yess", "yesno", "noo", "n", "n0", "y3s", "var", "rule", "set", "prop", "check", "x00"} {
		right(t, vars(from(name, 0, 1)))
	}
	for _, name := range []string{"", "yes", "no", "0", "9", "0a", "9z", "12", "abcdefghi", "a12345678", "A", "Z", "aB", "aZ", "X", "Yes", "NO", "a_", "_", "_a", "a b", " a", "a ", "a\n", "\x00", "a\x00", "a-b", "-", "é", "aé", "\xff", "a\xff", "`", "{", "a`", "a{", "/", ":", "a/", "a:", "a@", "a[", strings.Repeat("a", 100000)} {
		refused(t, vars(from(name, 0, 1)), api.ErrName)
	}
}

// P3.1: each byte, as the first one and behind it.
func TestEveryByteOfAName(t *testing.T) {
	for b := range 256 {
		name := string([]byte{byte(b)})
		for _, s := range []string{name, "a" + name, name + "a", "a" + name + "a", "abcdefg" + name} {
			want := api.ErrName
			if nameOf(s) {
				want = api.OK
			}
			if e := model.Check(vars(from(s, 0, 1))); e != want {
				t.Errorf("Check with the name %q: %v, want %v", s, e, want)
			}
		}
	}
	for many := range 20 {
		want := api.ErrName
		if many >= 1 && many <= api.MaxName {
			want = api.OK
		}
		if e := model.Check(vars(from(strings.Repeat("q", many), 0, 1))); e != want {
			t.Errorf("Check with a name of %d bytes: %v, want %v", many, e, want)
		}
	}
}

// P3.2
func TestHowManyVariables(t *testing.T) {
	var l []api.Variable
	for i := range api.MaxVars {
		right(t, vars(l...))
		l = append(l, from(string(rune('a'+i)), i, i+1))
	}
	right(t, vars(l...))
	refused(t, vars(append(slices.Clone(l), from("g", 0, 0))...), api.ErrSize)
	// whatever each of them is
	refused(t, vars(make([]api.Variable, api.MaxVars)...), api.ErrName)
	refused(t, vars(make([]api.Variable, api.MaxVars+1)...), api.ErrSize)
	refused(t, vars(append([]api.Variable{from("a", 1, 0)}, l...)...), api.ErrSize)
	refused(t, vars(make([]api.Variable, 10000)...), api.ErrSize)
}

// P3.2
func TestNamesThatStandTwice(t *testing.T) {
	refused(t, vars(from("x", 0, 0), from("x", 0, 0)), api.ErrTwice)
	refused(t, vars(from("x", 0, 1), from("y", 0, 1), from("x", 5, 6)), api.ErrTwice)
	refused(t, vars(from("y", 0, 1), from("x", 0, 1), from("z", 0, 1), from("x", 5, 6)), api.ErrTwice)
	right(t, vars(from("x", 0, 1), from("xx", 0, 1), from("x1", 0, 1)))
	for first := range api.MaxVars {
		for second := range first {
			l := make([]api.Variable, api.MaxVars)
			for i := range l {
				l[i] = from(string(rune('a'+i)), 0, 1)
			}
			l[first].Name = l[second].Name
			refused(t, vars(l...), api.ErrTwice)
		}
	}
}

// P3.2
func TestBounds(t *testing.T) {
	for _, v := range []api.Variable{
		{Name: "x", Low: -1000, High: -1000, Init: -1000}, {Name: "x", Low: 1000, High: 1000, Init: 1000},
		{Name: "x", Low: -1000, High: -937, Init: -937}, {Name: "x", Low: 937, High: 1000, Init: 937},
		{Name: "x"}, {Name: "x", Low: -1, High: 1, Init: 0}, {Name: "x", Low: -1, High: 1, Init: -1}, {Name: "x", Low: -1, High: 1, Init: 1},
	} {
		right(t, vars(v))
		right(t, vars(from("w", 3, 4), v))
	}
	wrong := []api.Variable{
		{Name: "x", Low: -1001, High: -1000, Init: -1000}, {Name: "x", Low: -1001, High: -1001, Init: -1001},
		{Name: "x", Low: 1000, High: 1001, Init: 1000}, {Name: "x", Low: 1001, High: 1001, Init: 1001},
		{Name: "x", Low: 1, High: 0, Init: 0}, {Name: "x", Low: 1, High: 0, Init: 1}, {Name: "x", Low: 5, High: -5},
		{Name: "x", Low: 0, High: 1, Init: 2}, {Name: "x", Low: 0, High: 1, Init: -1}, {Name: "x", Low: 1, High: 3},
		{Name: "x", Low: -3, High: -1}, {Name: "x", Low: 7, High: 7, Init: 6}, {Name: "x", Low: 7, High: 7, Init: 8},
		{Name: "x", Low: math.MinInt, High: math.MaxInt}, {Name: "x", Low: math.MaxInt, High: math.MinInt},
	}
	for _, n := range wrongNumbers {
		wrong = append(wrong, api.Variable{Name: "x", Low: n, High: n, Init: n}, api.Variable{Name: "x", High: 1, Init: n},
			api.Variable{Name: "x", Low: n, High: 1}, api.Variable{Name: "x", Low: -1, High: n})
	}
	for _, v := range wrong {
		refused(t, vars(v), api.ErrRange)
		refused(t, vars(from("w", 3, 4), v), api.ErrRange)
		refused(t, vars(v, from("w", 3, 4)), api.ErrRange)
	}
}

// P3.2
func TestHowManyValuesAndStates(t *testing.T) {
	right(t, vars(from("x", 0, 63)))
	right(t, vars(from("x", -32, 31)))
	refused(t, vars(from("x", 0, 64)), api.ErrSize)
	refused(t, vars(from("x", -1000, 1000)), api.ErrSize)
	refused(t, vars(from("x", -1000, -936)), api.ErrSize)
	refused(t, vars(from("x", 0, 1), from("y", 0, 64)), api.ErrSize)
	// 4096 states, and more
	right(t, vars(from("x", 0, 63), from("y", 0, 63)))
	right(t, vars(from("x", 0, 63), from("y", 0, 63), from("z", 5, 5), from("w", -5, -5)))
	right(t, vars(from("a", 0, 3), from("b", 0, 3), from("c", 0, 3), from("d", 0, 3), from("e", 0, 3), from("f", 0, 3)))
	right(t, vars(from("a", 0, 15), from("b", 0, 15), from("c", 0, 15)))
	refused(t, vars(from("x", 0, 63), from("y", 0, 63), from("z", 0, 1)), api.ErrSize)
	refused(t, vars(from("z", 0, 1), from("x", 0, 63), from("y", 0, 63)), api.ErrSize)
	refused(t, vars(from("a", 0, 16), from("b", 0, 15), from("c", 0, 15)), api.ErrSize)
	right(t, vars(from("a", 0, 62), from("b", 0, 63)))
	// the nearest ones that can be: 4100, which is 41 * 50 * 2, and 4095, which is 39 * 35 * 3
	refused(t, vars(from("a", 0, 40), from("b", 0, 49), from("c", 0, 1)), api.ErrSize)
	right(t, vars(from("a", 0, 38), from("b", 0, 34), from("c", 0, 2)))
	refused(t, vars(from("a", 0, 63), from("b", 0, 63), from("c", 0, 63), from("d", 0, 63), from("e", 0, 63), from("f", 0, 63)), api.ErrSize)
}

// P3.2: one by one, and of one variable in the order in which its refusals are named.
func TestOrderOfRefusalsOfVariables(t *testing.T) {
	name, twice, bounds, size := from("yes", 0, 1), from("w", 0, 1), from("x", 1, 0), from("y", 0, 64)
	wrong := []struct {
		v api.Variable
		e api.Errno
	}{{name, api.ErrName}, {twice, api.ErrTwice}, {bounds, api.ErrRange}, {size, api.ErrSize}}
	for _, a := range wrong {
		for _, b := range wrong {
			refused(t, vars(from("w", 0, 1), a.v, b.v), a.e)
		}
	}
	w := from("w", 0, 63)
	refused(t, vars(w, from("Yes", 1, 0)), api.ErrName)
	refused(t, vars(w, from("Yes", 0, 64)), api.ErrName)
	refused(t, vars(w, from("w", 1, 0)), api.ErrTwice)
	refused(t, vars(w, from("w", 0, 64)), api.ErrTwice)
	refused(t, vars(from("no", 0, 0), from("no", 0, 0)), api.ErrName)
	refused(t, vars(from("x", -1001, 1001)), api.ErrRange)
	refused(t, vars(api.Variable{Name: "x", High: 64, Init: 65}), api.ErrRange)
	refused(t, vars(w, from("x", 0, 63), api.Variable{Name: "y", High: 1, Init: 2}), api.ErrRange)
	// the states are counted up to a variable
	refused(t, vars(w, from("x", 0, 63), from("y", 0, 1), from("no", 0, 1)), api.ErrSize)
	refused(t, vars(w, from("x", 0, 63), from("y", 1, 1), from("no", 0, 1)), api.ErrName)
}

// P3.3
func TestGuards(t *testing.T) {
	for _, l := range [][]api.Op{term(yes), term(no), term(lt, variable(0), num(3)), term(and, eq, variable(1), num(0), not, yes)} {
		right(t, rules(api.Rule{Guard: l}))
		right(t, rules(rule(), api.Rule{Guard: l, Sets: []api.Set{set(0, num(1))}}))
	}
	for _, c := range []struct {
		l []api.Op
		e api.Errno
	}{
		{term(num(1)), api.ErrType}, {term(variable(0)), api.ErrType}, {term(add, num(1), num(1)), api.ErrType},
		{nil, api.ErrShort}, {term(not), api.ErrShort}, {term(yes, yes), api.ErrForm}, {term(api.Op{}), api.ErrKind}, {term(prop), api.ErrKind},
		{term(next, yes), api.ErrKind}, {term(not, num(1)), api.ErrType}, {term(eq, variable(2), num(1)), api.ErrRange}, {term(eq, num(1001), num(1)), api.ErrRange},
		{slices.Repeat(term(not), 61), api.ErrSize}, {term(variable(2)), api.ErrRange},
	} {
		refused(t, rules(api.Rule{Guard: c.l}), c.e)
		refused(t, rules(rule(), api.Rule{Guard: c.l, Sets: []api.Set{set(-1)}}), c.e)
	}
	// over no variables
	right(t, api.Model{Rules: []api.Rule{rule()}})
	refused(t, api.Model{Rules: []api.Rule{{Guard: term(eq, variable(0), variable(0))}}}, api.ErrRange)
	refused(t, api.Model{Rules: []api.Rule{{}}}, api.ErrShort)
}

// P3.3
func TestSets(t *testing.T) {
	right(t, rules(rule(set(0, num(1000)))))
	right(t, rules(rule(set(1, variable(0)), set(0, variable(1)))))
	right(t, rules(rule(set(0, add, variable(0), num(1))), rule(set(0, mul, variable(1), num(-1000)))))
	for _, place := range append([]int{-1, 2, 3}, wrongNumbers...) {
		refused(t, rules(rule(set(place, num(1)))), api.ErrRange)
		refused(t, rules(rule(set(1, num(1)), set(place, num(1)))), api.ErrRange)
		refused(t, rules(rule(set(place, num(1)), set(place, num(1)))), api.ErrRange)
	}
	refused(t, api.Model{Rules: []api.Rule{rule(set(0, num(1)))}}, api.ErrRange)
	refused(t, rules(rule(set(0, num(1)), set(0, num(1)))), api.ErrTwice)
	refused(t, rules(rule(set(1, num(1)), set(0, num(1)), set(1, num(2)))), api.ErrTwice)
	for _, c := range []struct {
		l []api.Op
		e api.Errno
	}{
		{term(yes), api.ErrType}, {term(no), api.ErrType}, {term(lt, num(1), num(2)), api.ErrType}, {term(not, yes), api.ErrType},
		{nil, api.ErrShort}, {term(add, num(1)), api.ErrShort}, {term(num(1), num(1)), api.ErrForm}, {term(api.Op{Kind: 19}), api.ErrKind}, {term(prop), api.ErrKind},
		{term(add, yes, num(1)), api.ErrType}, {term(variable(2)), api.ErrRange}, {term(num(-1001)), api.ErrRange}, {slices.Repeat(term(num(1)), 61), api.ErrSize},
	} {
		refused(t, rules(rule(set(1, c.l...))), c.e)
		refused(t, rules(rule(set(1, num(1)), set(0, c.l...))), c.e)
		refused(t, rules(rule(), rule(set(0, c.l...), set(0, num(1)))), c.e)
	}
}

// P3.3
func TestHowManySets(t *testing.T) {
	m := api.Model{}
	for i := range api.MaxVars {
		m.Vars = append(m.Vars, from(string(rune('a'+i)), 0, 1))
	}
	var sets []api.Set
	for i := range api.MaxSets {
		m.Rules = []api.Rule{rule(sets...)}
		right(t, m)
		sets = append(sets, set(api.MaxVars-1-i, variable(i)))
	}
	m.Rules = []api.Rule{rule(sets...)}
	right(t, m)
	m.Rules = []api.Rule{rule(append(slices.Clone(sets), set(0, num(0)))...)}
	refused(t, m, api.ErrSize)
	// ahead of the guard, and of each of them
	m.Rules = []api.Rule{{Sets: make([]api.Set, api.MaxSets+1)}}
	refused(t, m, api.ErrSize)
	m.Rules = []api.Rule{{Sets: make([]api.Set, api.MaxSets)}}
	refused(t, m, api.ErrShort)
	m.Rules = []api.Rule{{Guard: term(yes), Sets: make([]api.Set, 10000)}}
	refused(t, m, api.ErrSize)
}

// P3.3: in the order in which the refusals of a rule are named.
func TestOrderOfRefusalsOfARule(t *testing.T) {
	refused(t, rules(api.Rule{Guard: term(num(1)), Sets: []api.Set{set(2, num(1))}}), api.ErrType)
	refused(t, rules(api.Rule{Guard: term(num(1)), Sets: []api.Set{set(0, num(1001))}}), api.ErrType)
	refused(t, rules(api.Rule{Guard: nil, Sets: []api.Set{set(0, yes)}}), api.ErrShort)
	// of one Set: its variable ahead of its value
	refused(t, rules(rule(set(2, yes))), api.ErrRange)
	refused(t, rules(rule(set(0, num(1)), set(0, num(1001)))), api.ErrTwice)
	refused(t, rules(rule(set(0, num(1)), set(0))), api.ErrTwice)
	refused(t, rules(rule(set(0, yes), set(2, num(1)))), api.ErrType)
	// Set by Set
	refused(t, rules(rule(set(0, yes), set(0, num(1)))), api.ErrType)
	refused(t, rules(rule(set(0), set(2, num(1)))), api.ErrShort)
	refused(t, rules(rule(set(2, num(1)), set(0))), api.ErrRange)
	refused(t, rules(rule(set(0, num(1)), set(0, num(1)), set(2, num(1)))), api.ErrTwice)
	refused(t, rules(rule(set(0, num(1)), set(2, num(1)), set(0, num(1)))), api.ErrRange)
}

// P3.4
func TestHowManyRules(t *testing.T) {
	for many := range api.MaxRules + 1 {
		right(t, rules(slices.Repeat([]api.Rule{rule(set(0, num(1)))}, many)...))
	}
	for _, many := range []int{api.MaxRules + 1, api.MaxRules + 2, 10000} {
		refused(t, rules(slices.Repeat([]api.Rule{rule(set(0, num(1)))}, many)...), api.ErrSize)
		// ahead of what each of them is
		refused(t, rules(make([]api.Rule, many)...), api.ErrSize)
	}
	refused(t, rules(make([]api.Rule, api.MaxRules)...), api.ErrShort)
}

// P3.4: variables ahead of rules, then rule by rule.
func TestOrderOfRefusalsOfAModel(t *testing.T) {
	wrong := []struct {
		r api.Rule
		e api.Errno
	}{
		{api.Rule{Guard: term(yes), Sets: make([]api.Set, 7)}, api.ErrSize}, {api.Rule{Guard: term(num(1))}, api.ErrType}, {api.Rule{}, api.ErrShort},
		{rule(set(5, num(1))), api.ErrRange}, {rule(set(0, num(1)), set(0, num(1))), api.ErrTwice}, {rule(set(0, prop)), api.ErrKind},
	}
	for _, a := range wrong {
		for _, b := range wrong {
			refused(t, rules(a.r, b.r), a.e)
			refused(t, rules(rule(), a.r, rule(), b.r), a.e)
		}
		for _, l := range []struct {
			v api.Variable
			e api.Errno
		}{{from("no", 0, 1), api.ErrName}, {from("x", 1, 0), api.ErrRange}, {from("x", 0, 64), api.ErrSize}} {
			refused(t, api.Model{Vars: []api.Variable{l.v}, Rules: []api.Rule{a.r}}, l.e)
			refused(t, api.Model{Vars: []api.Variable{l.v}, Rules: slices.Repeat([]api.Rule{a.r}, 13)}, l.e)
		}
	}
	twice := api.Model{Vars: []api.Variable{from("x", 0, 1), from("x", 0, 1)}, Rules: []api.Rule{{}}}
	refused(t, twice, api.ErrTwice)
	// rules are told by what their own model has of variables
	m := rules(rule(set(1, variable(1))))
	right(t, m)
	m.Vars = m.Vars[:1]
	refused(t, m, api.ErrRange)
}

// P3.5
func TestProps(t *testing.T) {
	m := rules(rule(set(0, variable(1))))
	truths := [][]api.Op{term(yes), term(no), term(lt, variable(0), num(1)), term(eq, variable(0), variable(1)), term(not, yes), term(yes)}
	for many := range api.MaxProps + 1 {
		if e := model.Props(m, truths[:many]); e != api.OK {
			t.Errorf("Props of %d: %v", many, e)
		}
	}
	propsRefused(t, m, append(slices.Clone(truths), term(yes)), api.ErrSize)
	// ahead of what each of them is
	propsRefused(t, m, make([][]api.Op, api.MaxProps+1), api.ErrSize)
	propsRefused(t, m, make([][]api.Op, 10000), api.ErrSize)
	propsRefused(t, m, make([][]api.Op, api.MaxProps), api.ErrShort)
	wrong := []struct {
		l []api.Op
		e api.Errno
	}{
		{term(num(1)), api.ErrType}, {term(variable(1)), api.ErrType}, {term(not, num(1)), api.ErrType}, {nil, api.ErrShort}, {term(yes, no), api.ErrForm},
		{term(prop), api.ErrKind}, {term(next, yes), api.ErrKind}, {term(eq, variable(2), num(1)), api.ErrRange}, {term(variable(2)), api.ErrRange}, {slices.Repeat(term(not), 61), api.ErrSize},
	}
	for _, a := range wrong {
		propsRefused(t, m, [][]api.Op{a.l}, a.e)
		propsRefused(t, m, [][]api.Op{term(yes), a.l}, a.e)
		for _, b := range wrong {
			propsRefused(t, m, [][]api.Op{a.l, b.l}, a.e)
			propsRefused(t, m, [][]api.Op{term(no), a.l, term(yes), b.l}, a.e)
		}
	}
	// what a model has of variables
	propsRefused(t, api.Model{}, [][]api.Op{term(eq, variable(0), num(1))}, api.ErrRange)
	if e := model.Props(api.Model{}, [][]api.Op{term(yes)}); e != api.OK {
		t.Errorf("Props without variables: %v", e)
	}
}

// propsRefused with an error.
func propsRefused(t *testing.T, m api.Model, l [][]api.Op, want api.Errno) {
	t.Helper()
	if e := model.Props(m, l); e != want {
		t.Errorf("Props(%v, %v): %v, want %v", m, l, e, want)
	}
}

// P3.6
func TestCount(t *testing.T) {
	for _, c := range []struct {
		m    api.Model
		want int
	}{
		{api.Model{}, 1}, {vars(from("x", 0, 0)), 1}, {vars(from("x", -5, -5), from("y", 9, 9)), 1},
		{vars(from("x", 1, 3), from("y", 0, 1)), 6}, {vars(from("x", -2, 2)), 5}, {vars(from("x", 0, 63), from("y", 0, 63)), 4096},
		{vars(from("a", 0, 1), from("b", 0, 2), from("c", 0, 4), from("d", 0, 6), from("e", 0, 0), from("f", 0, 10)), 2310},
	} {
		if n, e := model.Count(c.m); n != c.want || e != api.OK {
			t.Errorf("Count(%v): %d, %v, want %d", c.m, n, e, c.want)
		}
	}
}

// P3.7, P3.8
func TestCodes(t *testing.T) {
	two := vars(from("x", 1, 3), from("y", 0, 1))
	three := vars(from("a", -1, 1), from("b", 10, 13), from("c", 5, 6))
	for _, c := range []struct {
		m      api.Model
		values []int
		code   int
	}{
		{two, []int{2, 1}, 3}, {two, []int{1, 0}, 0}, {two, []int{1, 1}, 1}, {two, []int{2, 0}, 2}, {two, []int{3, 0}, 4}, {two, []int{3, 1}, 5},
		{three, []int{-1, 10, 5}, 0}, {three, []int{-1, 10, 6}, 1}, {three, []int{-1, 11, 5}, 2}, {three, []int{0, 10, 5}, 8}, {three, []int{1, 13, 6}, 23}, {three, []int{0, 12, 6}, 13},
		{api.Model{}, nil, 0}, {api.Model{}, []int{}, 0}, {vars(from("x", 7, 7)), []int{7}, 0},
	} {
		if n, e := model.Code(c.m, c.values); n != c.code || e != api.OK {
			t.Errorf("Code(%v, %v): %d, %v, want %d", c.m, c.values, n, e, c.code)
		}
		if l, e := model.Values(c.m, c.code); !slices.Equal(l, c.values) || e != api.OK {
			t.Errorf("Values(%v, %d): %v, %v, want %v", c.m, c.code, l, e, c.values)
		}
	}
}

// P3.7
func TestNoState(t *testing.T) {
	m := vars(from("x", 1, 3), from("y", -2, 1), from("z", 5, 5))
	for many := range 6 {
		if many == 3 {
			continue
		}
		values := []int{1, 0, 5, 0, 0, 0}[:many]
		if n, e := model.Code(m, values); n != 0 || e != api.ErrState {
			t.Errorf("Code(%v, %v): %d, %v", m, values, n, e)
		}
	}
	for place, wrong := range [][]int{{0, 4, -1, 7}, {-3, 2, -1000, 1000}, {4, 6, 0, -5}} {
		for _, n := range append(wrong, wrongNumbers...) {
			values := []int{3, 1, 5}
			values[place] = n
			if n, e := model.Code(m, values); n != 0 || e != api.ErrState {
				t.Errorf("Code(%v, %v): %d, %v", m, values, n, e)
			}
		}
	}
	for _, values := range [][]int{{0}, {0, 0}, {math.MaxInt}} {
		if n, e := model.Code(api.Model{}, values); n != 0 || e != api.ErrState {
			t.Errorf("Code without variables of %v: %d, %v", values, n, e)
		}
	}
}

// P3.8
func TestNoCode(t *testing.T) {
	for _, m := range []api.Model{{}, vars(from("x", 1, 3), from("y", 0, 1)), vars(from("x", 0, 63), from("y", 0, 63)), vars(from("x", 4, 4))} {
		many := len(statesOf(m.Vars))
		for _, code := range append([]int{-1, -2, -many, many, many + 1, 2 * many, 4096, 4097}, wrongNumbers...) {
			if l, e := model.Values(m, code); len(l) != 0 || e != api.ErrState {
				t.Errorf("Values(%v, %d): %v, %v", m, code, l, e)
			}
		}
		if l, e := model.Values(m, many-1); len(l) != len(m.Vars) || e != api.OK {
			t.Errorf("Values(%v, %d): %v, %v", m, many-1, l, e)
		}
	}
}

// P3.9
func TestFirst(t *testing.T) {
	x := api.Variable{Name: "x", Low: 1, High: 3}
	y := api.Variable{Name: "y", Low: -1, High: 2}
	for x.Init = 1; x.Init <= 3; x.Init++ {
		for y.Init = -1; y.Init <= 2; y.Init++ {
			want := (x.Init-1)*4 + y.Init + 1
			if n, e := model.First(vars(x, y)); n != want || e != api.OK {
				t.Errorf("First(%v, %v): %d, %v, want %d", x, y, n, e, want)
			}
		}
	}
	if n, e := model.First(api.Model{}); n != 0 || e != api.OK {
		t.Errorf("First without variables: %d, %v", n, e)
	}
}

// die: numbers that look drawn, the same each time.
type die uint64

func (d *die) below(most int) int {
	*d = *d*6364136223846793005 + 1442695040888963407
	return int(uint64(*d>>33) % uint64(most))
}

// pick one of them; mostly the first.
func pick[T any](d *die, l ...T) T {
	if d.below(25) > 0 {
		return l[0]
	}
	return l[d.below(len(l))]
}

// variable that looks drawn, with a slip now and then.
func (d *die) variable(place int) api.Variable {
	low, many := d.below(9)-4, 1+d.below(5)
	v := api.Variable{Name: pick(d, string(rune('a'+place)), "a", "yes", "", "b9"), Low: pick(d, low, -1000, -1001, low+60), High: low + many - 1}
	v.High = pick(d, v.High, 1000, 1001, low+63, low+64, low-1)
	v.Init = pick(d, v.Low+d.below(many), v.High, v.High+1, v.Low-1, v.Low)
	return v
}

// truth over two variables, with a slip now and then.
func (d *die) truth() []api.Op {
	l := [][]api.Op{term(yes), term(lt, variable(0), num(2)), term(not, eq, variable(1), num(0)), term(no)}[d.below(4)]
	return pick(d, l, term(num(1)), nil, term(prop), term(yes, yes), term(eq, variable(2), num(1)))
}

// number over two variables, with a slip now and then.
func (d *die) number() []api.Op {
	l := [][]api.Op{term(num(3)), term(variable(1)), term(add, variable(0), num(1)), term(mul, num(-1), variable(0))}[d.below(4)]
	return pick(d, l, term(yes), nil, term(prop), term(num(1), num(1)), term(num(1001)))
}

// model that looks drawn, with a slip now and then.
func (d *die) model() api.Model {
	m := api.Model{}
	for i := range pick(d, 2+d.below(3), 0, 1, 6, 7) {
		m.Vars = append(m.Vars, d.variable(i))
	}
	for range pick(d, d.below(4), 12, 13) {
		r := api.Rule{Guard: d.truth()}
		first := d.below(2)
		for i := range pick(d, d.below(3), 3, 7) {
			r.Sets = append(r.Sets, api.Set{Var: pick(d, (first+i)%2, 0, 1, 2, 7, -1), Value: d.number()})
		}
		m.Rules = append(m.Rules, r)
	}
	return m
}

// P3.1 to P3.9
func TestDrawn(t *testing.T) {
	d := die(11)
	seen := map[api.Errno]int{}
	for range 4000 {
		m := d.model()
		seen[hold(t, m)]++
		props := [][]api.Op{}
		for range pick(&d, d.below(4), 6, 7) {
			props = append(props, d.truth())
		}
		want := checkOf(m)
		if want == api.OK && len(props) > 6 {
			want = api.ErrSize
		}
		for _, l := range props {
			if want == api.OK {
				want = typedOf(l, len(m.Vars), true)
			}
		}
		propsRefused(t, m, props, want)
	}
	for _, e := range []api.Errno{api.OK, api.ErrSize, api.ErrRange, api.ErrForm, api.ErrShort, api.ErrType, api.ErrName, api.ErrTwice, api.ErrKind} {
		if seen[e] < 10 {
			t.Errorf("too few outcomes %v were drawn: %v", e, seen)
		}
	}
}

// cloneOf a model, with the spare room of its lists.
func cloneOf(m api.Model) api.Model {
	c := api.Model{Vars: whole(m.Vars), Rules: whole(m.Rules)}
	for i, r := range c.Rules {
		c.Rules[i] = api.Rule{Guard: whole(r.Guard), Sets: whole(r.Sets)}
		for j, s := range c.Rules[i].Sets {
			c.Rules[i].Sets[j].Value = whole(s.Value)
		}
	}
	return c
}

// whole list, copied up to its cap.
func whole[T any](l []T) []T { return append([]T(nil), l[:cap(l)]...) }

// What is handed in stays as it is, its spare room too.
func TestListsHandedInStay(t *testing.T) {
	all := rules(rule(set(0, add, variable(0), num(1)), set(1, variable(0)), set(7)), api.Rule{Guard: term(lt, variable(0), num(3))}, rule(set(0, num(1)), set(0)), api.Rule{})
	all.Vars = append(all.Vars, from("z", -1, 4), from("no", 3, 2))
	values := []int{3, 1, 4, 9, 9}
	props := [][]api.Op{term(yes), term(eq, variable(0), num(2)), term(not, no)}
	before, valuesBefore := cloneOf(all), slices.Clone(values)
	for many := range len(all.Vars) + 1 {
		for laws := range len(all.Rules) + 1 {
			for sets := range 4 {
				m := api.Model{Vars: all.Vars[:many], Rules: slices.Clone(all.Rules[:laws])}
				if laws > 0 {
					m.Rules[0].Sets = m.Rules[0].Sets[:sets]
				}
				model.Check(m)
				model.Props(m, props[:2])
				model.Count(m)
				model.Code(m, values[:many])
				model.Values(m, 1)
				model.First(m)
				if !reflect.DeepEqual(cloneOf(all), before) || !slices.Equal(values, valuesBefore) {
					t.Fatalf("%d variables and %d rules handed in: %v and %v are left", many, laws, all, values)
				}
			}
		}
	}
	if !reflect.DeepEqual(props, [][]api.Op{term(yes), term(eq, variable(0), num(2)), term(not, no)}) {
		t.Errorf("propositions handed in: %v are left", props)
	}
}

// Answers are new memory: what is done with one is seen in no other, and the model stays.
func TestAnswersAreNew(t *testing.T) {
	m := vars(from("x", 1, 3), from("y", 0, 1), from("z", -4, 4))
	before := cloneOf(m)
	a, _ := model.Values(m, 17)
	b, _ := model.Values(m, 17)
	want := slices.Clone(b)
	a = a[:cap(a)]
	for i := range a {
		a[i] = 99
	}
	c, _ := model.Values(m, 17)
	if !slices.Equal(b, want) || !slices.Equal(c, want) || !reflect.DeepEqual(cloneOf(m), before) {
		t.Errorf("behind a change of one answer: %v and %v, want %v; %v", b, c, want, m)
	}
}
