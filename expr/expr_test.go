package expr_test

import (
	"math"
	"slices"
	"testing"

	"foretell/api"
	"foretell/expr"
	"foretell/polish"
)

// shape of a kind: what it makes, and what it takes (n: a number, t: a truth), written apart from the program.
var shapes = map[int]struct {
	makes byte
	takes string
}{
	api.Num: {'n', ""}, api.Var: {'n', ""}, api.Add: {'n', "nn"}, api.Sub: {'n', "nn"}, api.Mul: {'n', "nn"},
	api.Eq: {'t', "nn"}, api.Lt: {'t', "nn"}, api.And: {'t', "tt"}, api.Or: {'t', "tt"}, api.Not: {'t', "t"},
	api.Yes: {'t', ""}, api.No: {'t', ""},
}

// made by a part: a type, and a number.
type made struct {
	of byte
	n  int
}

func num(n int) api.Op { return api.Op{Kind: api.Num, Value: n} }

func variable(place int) api.Op { return api.Op{Kind: api.Var, Value: place} }

var (
	add, sub, mul = api.Op{Kind: api.Add}, api.Op{Kind: api.Sub}, api.Op{Kind: api.Mul}
	eq, lt        = api.Op{Kind: api.Eq}, api.Op{Kind: api.Lt}
	and, or, not  = api.Op{Kind: api.And}, api.Op{Kind: api.Or}, api.Op{Kind: api.Not}
	yes, no       = api.Op{Kind: api.Yes}, api.Op{Kind: api.No}
	next, prop    = api.Op{Kind: api.Next}, api.Op{Kind: api.Prop}
)

// term of these ops.
func term(l ...api.Op) []api.Op { return l }

// join terms.
func join(l ...[]api.Op) []api.Op { return slices.Concat(l...) }

// fold a list from its last op on, by a stack: what it makes, whether all types fit, and whether nothing is too great.
func fold(l []api.Op, env []int) (top made, fits, small bool) {
	fits, small = true, true
	var stack []made
	for _, op := range slices.Backward(l) {
		shape := shapes[op.Kind]
		parts := slices.Clone(stack[len(stack)-len(shape.takes):])
		slices.Reverse(parts)
		stack = stack[:len(stack)-len(parts)]
		for i, part := range parts {
			fits = fits && part.of == shape.takes[i]
		}
		n := workOf(op, parts, env)
		small = small && n >= -1000000 && n <= 1000000
		stack = append(stack, made{shape.makes, n})
	}
	return stack[0], fits, small
}

// workOf one op.
func workOf(op api.Op, parts []made, env []int) int {
	holds := false
	switch op.Kind {
	case api.Num:
		return op.Value
	case api.Var:
		return env[op.Value]
	case api.Add:
		return parts[0].n + parts[1].n
	case api.Sub:
		return parts[0].n - parts[1].n
	case api.Mul:
		return parts[0].n * parts[1].n
	case api.Eq:
		holds = parts[0].n == parts[1].n
	case api.Lt:
		holds = parts[0].n < parts[1].n
	case api.And:
		holds = parts[0].n == 1 && parts[1].n == 1
	case api.Or:
		holds = parts[0].n == 1 || parts[1].n == 1
	case api.Not:
		holds = parts[0].n != 1
	case api.Yes:
		holds = true
	}
	if holds {
		return 1
	}
	return 0
}

// refusalOf an op by itself.
func refusalOf(op api.Op, vars int) api.Errno {
	switch {
	case op.Kind > 12:
		return api.ErrKind
	case op.Kind == api.Num && (op.Value < -1000 || op.Value > 1000):
		return api.ErrRange
	case op.Kind == api.Var && (op.Value < 0 || op.Value >= vars):
		return api.ErrRange
	case op.Kind != api.Num && op.Kind != api.Var && op.Value != 0:
		return api.ErrRange
	}
	return api.OK
}

// checkOf a list, by the document's words.
func checkOf(l []api.Op, vars int) (bool, api.Errno) {
	if vars < 0 || vars > 6 {
		return false, api.ErrRange
	}
	if _, e := polish.Ends(l); e != api.OK {
		return false, e
	}
	for _, op := range l {
		if e := refusalOf(op, vars); e != api.OK {
			return false, e
		}
	}
	top, fits, _ := fold(l, make([]int, vars))
	if !fits {
		return false, api.ErrType
	}
	return top.of == 't', api.OK
}

// evalOf a list, by the document's words; only for terms that are small enough not to leave 64 bits behind what is too great.
func evalOf(l []api.Op, env []int) (int, api.Errno) {
	if _, e := checkOf(l, len(env)); e != api.OK {
		return 0, e
	}
	for _, v := range env {
		if v < -1000000 || v > 1000000 {
			return 0, api.ErrRange
		}
	}
	top, _, small := fold(l, env)
	if !small {
		return 0, api.ErrOver
	}
	return top.n, api.OK
}

// check both faces at one list.
func check(t *testing.T, l []api.Op, env []int) {
	t.Helper()
	truth, e := expr.Check(l, len(env))
	if want, wantErr := checkOf(l, len(env)); truth != want || e != wantErr {
		t.Errorf("Check(%v, %d): %v, %v, want %v, %v", l, len(env), truth, e, want, wantErr)
	}
	n, e := expr.Eval(l, env)
	if want, wantErr := evalOf(l, env); n != want || e != wantErr {
		t.Errorf("Eval(%v, %v): %v, %v, want %v, %v", l, env, n, e, want, wantErr)
	}
}

// refused by both faces with the same error.
func refused(t *testing.T, l []api.Op, vars int, want api.Errno) {
	t.Helper()
	if truth, e := expr.Check(l, vars); truth || e != want {
		t.Errorf("Check(%v, %d): %v, %v, want %v", l, vars, truth, e, want)
	}
	if vars < 0 {
		return
	}
	if n, e := expr.Eval(l, make([]int, vars)); n != 0 || e != want {
		t.Errorf("Eval(%v, %d values): %v, %v, want %v", l, vars, n, e, want)
	}
}

// P2.1
func TestWhatEachKindMakesAndTakes(t *testing.T) {
	parts := map[byte][][]api.Op{
		'n': {term(num(3)), term(variable(0)), term(add, num(1), num(2)), term(sub, num(1), num(2)), term(mul, num(1), num(2))},
		't': {term(eq, num(1), num(1)), term(lt, num(2), num(1)), term(and, yes, no), term(or, yes, no), term(not, yes), term(yes), term(no)},
	}
	every := append(slices.Clone(parts['n']), parts['t']...)
	for kind := api.Num; kind <= api.No; kind++ {
		head := term(api.Op{Kind: kind})
		shape := shapes[kind]
		switch len(shape.takes) {
		case 0:
			expect(t, head, shape.makes, true)
		case 1:
			for i, a := range every {
				fits := (i < len(parts['n'])) == (shape.takes[0] == 'n')
				expect(t, join(head, a), shape.makes, fits)
			}
		case 2:
			for i, a := range every {
				for j, b := range every {
					first := (i < len(parts['n'])) == (shape.takes[0] == 'n')
					second := (j < len(parts['n'])) == (shape.takes[1] == 'n')
					expect(t, join(head, a, b), shape.makes, first && second)
				}
			}
		}
	}
}

// expect of a list over one variable that it makes a type, or does not fit.
func expect(t *testing.T, l []api.Op, makes byte, fits bool) {
	t.Helper()
	check(t, l, []int{7})
	truth, e := expr.Check(l, 1)
	if fits && (truth != (makes == 't') || e != api.OK) {
		t.Errorf("Check(%v): %v, %v, but it makes %c", l, truth, e, makes)
	}
	if !fits && (truth || e != api.ErrType) {
		t.Errorf("Check(%v): %v, %v, want %v", l, truth, e, api.ErrType)
	}
}

// P2.1, P2.2
func TestTypesDeepWithin(t *testing.T) {
	refused(t, term(and, yes, not, not, num(0)), 0, api.ErrType)
	refused(t, term(and, or, no, variable(0), yes), 1, api.ErrType)
	refused(t, term(not, eq, num(1), add, num(1), yes), 0, api.ErrType)
	refused(t, term(lt, mul, num(1), lt, num(0), num(1), num(1)), 0, api.ErrType)
	// a truth is no number, though Eval tells it as one
	refused(t, term(eq, yes, yes), 0, api.ErrType)
	refused(t, term(eq, num(1), yes), 0, api.ErrType)
	refused(t, term(and, num(1), num(1)), 0, api.ErrType)
}

// P2.2
func TestHowManyVariables(t *testing.T) {
	for vars := range api.MaxVars + 1 {
		if truth, e := expr.Check(term(yes), vars); !truth || e != api.OK {
			t.Errorf("Check with %d variables: %v, %v", vars, truth, e)
		}
		if n, e := expr.Eval(term(yes), make([]int, vars)); n != 1 || e != api.OK {
			t.Errorf("Eval with %d values: %v, %v", vars, n, e)
		}
	}
	for _, vars := range []int{-1, api.MaxVars + 1, math.MinInt, math.MaxInt, 1 << 32} {
		if truth, e := expr.Check(term(yes), vars); truth || e != api.ErrRange {
			t.Errorf("Check with %d variables: %v, %v", vars, truth, e)
		}
		// whatever else is wrong
		if truth, e := expr.Check(nil, vars); truth || e != api.ErrRange {
			t.Errorf("Check of nothing with %d variables: %v, %v", vars, truth, e)
		}
	}
	refused(t, term(yes), api.MaxVars+1, api.ErrRange)
	refused(t, slices.Repeat(term(no), api.MaxOps+1), api.MaxVars+1, api.ErrRange)
}

// P2.2
func TestWhatEndsRefuses(t *testing.T) {
	refused(t, nil, 1, api.ErrShort)
	refused(t, term(), 1, api.ErrShort)
	refused(t, term(add, num(1)), 1, api.ErrShort)
	refused(t, term(yes, yes), 1, api.ErrForm)
	refused(t, term(api.Op{}), 1, api.ErrKind)
	refused(t, term(not, api.Op{Kind: -1}), 1, api.ErrKind)
	refused(t, term(api.Op{Kind: 19}), 1, api.ErrKind)
	refused(t, slices.Repeat(term(not), api.MaxOps+1), 1, api.ErrSize)
	// ahead of kinds, values and types
	refused(t, term(not, next), 1, api.ErrShort)
	refused(t, term(prop, yes), 1, api.ErrForm)
	refused(t, term(num(1001), yes), 1, api.ErrForm)
	refused(t, term(add, variable(1)), 1, api.ErrShort)
	refused(t, term(add, variable(1), api.Op{}), 1, api.ErrKind)
	refused(t, term(not, num(1), num(1)), 1, api.ErrForm)
}

// P2.2
func TestKindsAboveNo(t *testing.T) {
	for kind := api.Prop; kind <= api.Globally; kind++ {
		parts, _ := polish.Parts(kind)
		for _, part := range []api.Op{yes, num(1)} {
			l := append(term(api.Op{Kind: kind}), slices.Repeat(term(part), parts)...)
			refused(t, l, 1, api.ErrKind)
			refused(t, join(term(not), l), 1, api.ErrKind)
			refused(t, join(term(add, num(1)), l), 1, api.ErrKind)
		}
	}
}

// P2.2
func TestValues(t *testing.T) {
	for _, n := range []int{0, 1, -1, api.MaxConst, -api.MaxConst} {
		if got, e := expr.Eval(term(num(n)), nil); got != n || e != api.OK {
			t.Errorf("Eval of the number %d: %d, %v", n, got, e)
		}
	}
	for _, n := range []int{api.MaxConst + 1, -api.MaxConst - 1, math.MaxInt, math.MinInt, 1 << 32} {
		refused(t, term(num(n)), 1, api.ErrRange)
		refused(t, term(not, lt, num(0), num(n)), 1, api.ErrRange)
	}
	for vars := range api.MaxVars + 1 {
		for place := range vars {
			if truth, e := expr.Check(term(variable(place)), vars); truth || e != api.OK {
				t.Errorf("variable %d of %d: %v, %v", place, vars, truth, e)
			}
		}
		for _, place := range []int{-1, vars, math.MaxInt, math.MinInt} {
			refused(t, term(variable(place)), vars, api.ErrRange)
		}
	}
	for kind := api.Add; kind <= api.No; kind++ {
		parts, _ := polish.Parts(kind)
		part := num(1)
		if kind >= api.And {
			part = yes
		}
		for _, n := range []int{1, -1, math.MaxInt, math.MinInt} {
			l := append(term(api.Op{Kind: kind, Value: n}), slices.Repeat(term(part), parts)...)
			refused(t, l, 1, api.ErrRange)
		}
	}
}

// P2.2
func TestOrderOfRefusals(t *testing.T) {
	// op by op: whichever comes first
	refused(t, term(add, num(1001), next, num(1)), 1, api.ErrRange)
	refused(t, term(add, prop, num(1001)), 1, api.ErrKind)
	refused(t, term(api.Op{Kind: api.Not, Value: 1}, prop), 1, api.ErrRange)
	// of one op the kind comes ahead of the value
	refused(t, term(api.Op{Kind: api.Prop, Value: 1}), 1, api.ErrKind)
	refused(t, term(api.Op{Kind: api.Prop, Value: 5000}), 1, api.ErrKind)
	// types at last
	refused(t, term(add, yes, num(1001)), 1, api.ErrRange)
	refused(t, term(not, variable(1)), 1, api.ErrRange)
	refused(t, term(not, add, num(1), prop), 1, api.ErrKind)
	refused(t, term(and, num(1), variable(-1)), 1, api.ErrRange)
}

// P2.2, P2.3
func TestOrdinary(t *testing.T) {
	for _, c := range []struct {
		l     []api.Op
		env   []int
		want  int
		truth bool
	}{
		{term(sub, num(3), variable(0)), []int{5}, -2, false},
		{term(add, num(1), mul, variable(0), num(2)), []int{20}, 41, false},
		{term(sub, sub, num(1), num(2), num(3)), nil, -4, false},
		{term(sub, num(1), sub, num(2), num(3)), nil, 2, false},
		{term(mul, num(-7), num(-6)), nil, 42, false},
		{term(mul, num(-7), num(6)), nil, -42, false},
		{term(variable(1)), []int{4, -5, 6}, -5, false},
		{term(variable(5)), []int{1, 2, 3, 4, 5, -6}, -6, false},
		{term(eq, num(2), variable(0)), []int{2}, 1, true},
		{term(eq, num(2), variable(0)), []int{-2}, 0, true},
		{term(lt, num(2), num(3)), nil, 1, true},
		{term(lt, num(3), num(2)), nil, 0, true},
		{term(lt, num(2), num(2)), nil, 0, true},
		{term(lt, num(-3), num(-2)), nil, 1, true},
		{term(lt, num(-2), num(-3)), nil, 0, true},
		{term(not, yes), nil, 0, true},
		{term(not, no), nil, 1, true},
		{term(not, not, yes), nil, 1, true},
		{term(yes), nil, 1, true},
		{term(no), nil, 0, true},
		{term(and, no, no), nil, 0, true},
		{term(and, no, yes), nil, 0, true},
		{term(and, yes, no), nil, 0, true},
		{term(and, yes, yes), nil, 1, true},
		{term(or, no, no), nil, 0, true},
		{term(or, no, yes), nil, 1, true},
		{term(or, yes, no), nil, 1, true},
		{term(or, yes, yes), nil, 1, true},
		{term(and, lt, num(0), variable(0), not, eq, variable(0), variable(1)), []int{1, 2}, 1, true},
		{term(and, lt, num(0), variable(0), not, eq, variable(0), variable(1)), []int{2, 2}, 0, true},
	} {
		if truth, e := expr.Check(c.l, len(c.env)); truth != c.truth || e != api.OK {
			t.Errorf("Check(%v, %d): %v, %v, want %v", c.l, len(c.env), truth, e, c.truth)
		}
		if n, e := expr.Eval(c.l, c.env); n != c.want || e != api.OK {
			t.Errorf("Eval(%v, %v): %v, %v, want %v", c.l, c.env, n, e, c.want)
		}
	}
}

// P2.3
func TestValuesOfVariables(t *testing.T) {
	for _, n := range []int{api.MaxValue, -api.MaxValue} {
		if got, e := expr.Eval(term(variable(1)), []int{0, n}); got != n || e != api.OK {
			t.Errorf("Eval with the value %d: %d, %v", n, got, e)
		}
	}
	for _, n := range []int{api.MaxValue + 1, -api.MaxValue - 1, math.MaxInt, math.MinInt, 1 << 32} {
		for place := range 3 {
			env := make([]int, 3)
			env[place] = n
			// asked for or not
			for _, l := range [][]api.Op{term(variable(place)), term(num(1)), term(eq, variable(0), variable(1))} {
				if got, e := expr.Eval(l, env); got != 0 || e != api.ErrRange {
					t.Errorf("Eval(%v, %v): %d, %v, want %v", l, env, got, e, api.ErrRange)
				}
			}
			// behind what Check refuses, ahead of what is too great
			if got, e := expr.Eval(term(not, num(1)), env); got != 0 || e != api.ErrType {
				t.Errorf("Eval of no expression with %v: %d, %v", env, got, e)
			}
			if got, e := expr.Eval(nil, env); got != 0 || e != api.ErrShort {
				t.Errorf("Eval of nothing with %v: %d, %v", env, got, e)
			}
			if got, e := expr.Eval(term(mul, num(1000), mul, num(1000), num(2)), env); got != 0 || e != api.ErrRange {
				t.Errorf("Eval of what is too great with %v: %d, %v", env, got, e)
			}
		}
	}
}

// P2.3
func TestTooGreat(t *testing.T) {
	great := term(mul, num(1000), mul, num(1000), num(2))
	for _, c := range []struct {
		l    []api.Op
		env  []int
		want int
		e    api.Errno
	}{
		{term(mul, num(1000), num(1000)), nil, 1000000, api.OK},
		{term(mul, num(-1000), num(1000)), nil, -1000000, api.OK},
		{term(mul, variable(0), variable(0)), []int{1001}, 0, api.ErrOver},
		{term(mul, variable(0), variable(1)), []int{1001, -1000}, 0, api.ErrOver},
		{term(mul, variable(0), variable(0)), []int{1000000}, 0, api.ErrOver},
		{term(mul, variable(0), variable(1)), []int{1000000, -1000000}, 0, api.ErrOver},
		{term(add, variable(0), num(0)), []int{1000000}, 1000000, api.OK},
		{term(add, variable(0), num(1)), []int{1000000}, 0, api.ErrOver},
		{term(add, variable(0), num(-1)), []int{-1000000}, 0, api.ErrOver},
		{term(add, variable(0), num(-1)), []int{-999999}, -1000000, api.OK},
		{term(sub, variable(0), num(-1)), []int{999999}, 1000000, api.OK},
		{term(sub, variable(0), num(-1)), []int{1000000}, 0, api.ErrOver},
		{term(sub, variable(0), num(1)), []int{-1000000}, 0, api.ErrOver},
		// though what comes of it would be small again
		{term(sub, add, variable(0), num(1), num(1)), []int{1000000}, 0, api.ErrOver},
		{term(mul, num(0), add, variable(0), num(1)), []int{1000000}, 0, api.ErrOver},
		{join(term(eq), great, great), nil, 0, api.ErrOver},
		{join(term(lt, num(0)), great), nil, 0, api.ErrOver},
		// whatever other parts make
		{join(term(and, no, lt, num(0)), great), nil, 0, api.ErrOver},
		{join(term(and, lt, num(0)), great, term(no)), nil, 0, api.ErrOver},
		{join(term(or, yes, lt, num(0)), great), nil, 0, api.ErrOver},
		{join(term(or, lt, num(0)), great, term(yes)), nil, 0, api.ErrOver},
		{join(term(not, lt, num(0)), great), nil, 0, api.ErrOver},
	} {
		if n, e := expr.Eval(c.l, c.env); n != c.want || e != c.e {
			t.Errorf("Eval(%v, %v): %d, %v, want %d, %v", c.l, c.env, n, e, c.want, c.e)
		}
		// Check does not work it off
		if _, e := expr.Check(c.l, len(c.env)); e != api.OK {
			t.Errorf("Check(%v, %d): %v", c.l, len(c.env), e)
		}
	}
}

// P2.3: a product of many great numbers would leave 64 bits, if the work went on.
func TestGreatProduct(t *testing.T) {
	l := slices.Repeat(term(mul), 29)
	l = append(l, slices.Repeat(term(variable(0)), 30)...)
	for _, v := range []int{1000000, -1000000, 1 << 16, 2} {
		if n, e := expr.Eval(l, []int{v}); n != 0 || e != api.ErrOver {
			t.Errorf("%d to the 30th: %d, %v", v, n, e)
		}
	}
	for _, v := range []int{1, -1, 0} {
		if n, e := expr.Eval(l, []int{v}); n != v*v || e != api.OK {
			t.Errorf("%d to the 30th: %d, %v", v, n, e)
		}
	}
}

// P2.2, P2.3
func TestLongest(t *testing.T) {
	chain := append(slices.Repeat(term(not), api.MaxOps-1), yes)
	if n, e := expr.Eval(chain, nil); n != 0 || e != api.OK {
		t.Errorf("the longest chain: %d, %v", n, e)
	}
	refused(t, append(term(not), chain...), 0, api.ErrSize)
	var sum []api.Op
	for place := range 29 {
		sum = append(sum, add, num(place))
	}
	if n, e := expr.Eval(append(sum, num(1000)), nil); n != 1406 || e != api.OK {
		t.Errorf("the sum of 0 to 28, and 1000: %d, %v", n, e)
	}
}

// P2.1, P2.2, P2.3
func TestEveryShortList(t *testing.T) {
	var every []api.Op
	for kind := 0; kind <= api.Globally+1; kind++ {
		for _, n := range []int{-1, 0, 1} {
			every = append(every, api.Op{Kind: kind, Value: n})
		}
	}
	envs := [][]int{nil, {4}, {-3, 5}}
	for _, env := range envs {
		for _, a := range every {
			check(t, term(a), env)
			for _, b := range every {
				check(t, term(a, b), env)
			}
		}
	}
	for _, a := range every {
		for _, b := range every {
			for _, c := range every {
				check(t, term(a, b, c), envs[1])
			}
		}
	}
}

// die: numbers that look drawn, the same each time.
type die uint64

func (d *die) below(most int) int {
	*d = *d*6364136223846793005 + 1442695040888963407
	return int(uint64(*d>>33) % uint64(most))
}

// draw an expression of a type, with a slip now and then.
func (d *die) draw(of byte, deep int) []api.Op {
	if d.below(60) == 0 {
		of = "nt"[d.below(2)]
	}
	var fit []int
	for kind := api.Num; kind <= api.No; kind++ {
		if s := shapes[kind]; s.makes == of && (deep > 0 || s.takes == "" || of == 't' && s.takes == "nn") {
			fit = append(fit, kind)
		}
	}
	op := api.Op{Kind: fit[d.below(len(fit))]}
	switch op.Kind {
	case api.Num:
		op.Value = d.below(9) - 4
	case api.Var:
		op.Value = d.below(3)
	}
	l := term(op)
	for i := range len(shapes[op.Kind].takes) {
		l = append(l, d.draw(shapes[op.Kind].takes[i], deep-1)...)
	}
	return l
}

// P2.1, P2.2, P2.3
func TestDrawn(t *testing.T) {
	d := die(7)
	values := []int{0, 1, -1, 2, 3, 7, -10, 999, -1000, 1001, 1000000, -1000000, 1000001}
	seen := map[api.Errno]int{}
	for range 20000 {
		l := d.draw("nt"[d.below(2)], 3)
		env := make([]int, 2+d.below(2))
		for i := range env {
			env[i] = values[d.below(len(values)-d.below(2))]
		}
		check(t, l, env)
		_, e := expr.Eval(l, env)
		seen[e]++
	}
	for _, e := range []api.Errno{api.OK, api.ErrRange, api.ErrType, api.ErrOver} {
		if seen[e] < 100 {
			t.Errorf("too few outcomes %v were drawn: %v", e, seen)
		}
	}
}

// What is handed in stays as it is, its spare room too.
func TestListsHandedInStay(t *testing.T) {
	room := term(and, lt, variable(0), variable(1), not, eq, num(1), mul, variable(1), num(1000), yes, no)
	env := []int{3, 2000, 5, 6, 7, 8}
	before, envBefore := slices.Clone(room), slices.Clone(env)
	for many := range len(room) + 1 {
		for values := range len(env) + 1 {
			expr.Check(room[:many], values)
			expr.Eval(room[:many], env[:values])
			if !slices.Equal(room, before) || !slices.Equal(env, envBefore) {
				t.Fatalf("%d ops and %d values handed in: %v and %v are left", many, values, room, env)
			}
		}
	}
}
