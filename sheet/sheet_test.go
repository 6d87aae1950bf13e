package sheet_test

import (
	"fmt"
	"math"
	"reflect"
	"regexp"
	"slices"
	"strconv"
	"strings"
	"testing"
	"unsafe"

	"foretell/api"
	"foretell/logic"
	"foretell/polish"
	"foretell/product"
	"foretell/sheet"
)

func num(n int) api.Op { return api.Op{Kind: api.Num, Value: n} }

func variable(place int) api.Op { return api.Op{Kind: api.Var, Value: place} }

func prop(place int) api.Op { return api.Op{Kind: api.Prop, Value: place} }

var (
	add, sub, mul     = api.Op{Kind: api.Add}, api.Op{Kind: api.Sub}, api.Op{Kind: api.Mul}
	eq, lt            = api.Op{Kind: api.Eq}, api.Op{Kind: api.Lt}
	and, or, not      = api.Op{Kind: api.And}, api.Op{Kind: api.Or}, api.Op{Kind: api.Not}
	yes, no           = api.Op{Kind: api.Yes}, api.Op{Kind: api.No}
	next              = api.Op{Kind: api.Next}
	until, release    = api.Op{Kind: api.Until}, api.Op{Kind: api.Release}
	finally, globally = api.Op{Kind: api.Finally}, api.Op{Kind: api.Globally}
)

// term of these ops.
func term(l ...api.Op) []api.Op { return l }

// terms, one behind the other.
func terms(l ...[]api.Op) [][]api.Op { return l }

// from Low to High, beginning at Low.
func from(name string, low, high int) api.Variable {
	return api.Variable{Name: name, Low: low, High: high, Init: low}
}

// when a guard holds.
func when(guard []api.Op, sets ...api.Set) api.Rule { return api.Rule{Guard: guard, Sets: sets} }

// set a variable to what these ops make.
func set(place int, l ...api.Op) api.Set { return api.Set{Var: place, Value: l} }

// line of one variable x from 0 on, with so many states.
func line(many int, l ...api.Rule) api.Model {
	return api.Model{Vars: []api.Variable{from("x", 0, many-1)}, Rules: l}
}

// text of these lines.
func text(l ...string) string { return strings.Join(l, "\n") + "\n" }

// counter: the document's example of the whole.
func counter() api.Task {
	up := when(term(lt, variable(0), num(2)), set(0, add, variable(0), num(1)))
	return api.Task{Model: line(3, up, when(term(yes))), Props: terms(term(eq, variable(0), num(2))), Formula: term(finally, prop(0))}
}

// same: whether a list without elements is nil does not count.
func same(a, b api.Task) bool { return reflect.DeepEqual(plain(a), plain(b)) }

// plain task: all of its lists without elements are none at all, and there is no spare room.
func plain(t api.Task) api.Task {
	p := api.Task{Model: api.Model{Vars: append([]api.Variable(nil), t.Model.Vars...)}, Formula: append([]api.Op(nil), t.Formula...)}
	for _, r := range t.Model.Rules {
		rule := api.Rule{Guard: append([]api.Op(nil), r.Guard...)}
		for _, s := range r.Sets {
			rule.Sets = append(rule.Sets, api.Set{Var: s.Var, Value: append([]api.Op(nil), s.Value...)})
		}
		p.Model.Rules = append(p.Model.Rules, rule)
	}
	for _, l := range t.Props {
		p.Props = append(p.Props, append([]api.Op(nil), l...))
	}
	return p
}

// shows: just this text.
func shows(t *testing.T, task api.Task, want string) {
	t.Helper()
	if s, e := sheet.Show(task); s != want || e != api.OK {
		t.Errorf("Show(%v): %q, %v, want %q", task, s, e, want)
	}
}

// reads: just this task.
func reads(t *testing.T, s string, want api.Task) {
	t.Helper()
	if task, e := sheet.Read(s); !same(task, want) || e != api.OK {
		t.Errorf("Read(%q): %v, %v, want %v", s, task, e, want)
	}
}

// both ways: a task and its text.
func both(t *testing.T, task api.Task, s string) {
	t.Helper()
	shows(t, task, s)
	reads(t, s, task)
}

// notShown: refused by Show.
func notShown(t *testing.T, task api.Task, want api.Errno) {
	t.Helper()
	if s, e := sheet.Show(task); s != "" || e != want {
		t.Errorf("Show(%v): %q, %v, want %v", task, s, e, want)
	}
}

// notRead: refused by Read, with nothing answered.
func notRead(t *testing.T, s string, want api.Errno) {
	t.Helper()
	if task, e := sheet.Read(s); !same(task, api.Task{}) || e != want {
		t.Errorf("Read(%q): %v, %v, want %v", s, task, e, want)
	}
}

// The chapter's examples, and the document's example of the whole.
func TestExamples(t *testing.T) {
	both(t, api.Task{
		Model:   line(4, when(term(lt, variable(0), num(3)), set(0, add, variable(0), num(1)))),
		Props:   terms(term(eq, variable(0), num(3))),
		Formula: term(finally, prop(0)),
	}, text("var x 0 3 0", "rule < x 3", "set x + x 1", "prop = x 3", "check F P0"))
	both(t, counter(), text("var x 0 2 0", "rule < x 2", "set x + x 1", "rule yes", "prop = x 2", "check F P0"))
}

// P10.1: the words of all kinds.
func TestWords(t *testing.T) {
	m := api.Model{Vars: []api.Variable{from("x", 0, 3), from("a1b2c3d4", 0, 3)}}
	head := []string{"var x 0 3 0", "var a1b2c3d4 0 3 0"}
	for _, c := range []struct {
		truth []api.Op
		words string
	}{
		{term(yes), "yes"},
		{term(no), "no"},
		{term(not, yes), "! yes"},
		{term(and, yes, no), "& yes no"},
		{term(or, no, yes), "| no yes"},
		{term(eq, variable(0), variable(1)), "= x a1b2c3d4"},
		{term(lt, variable(1), variable(0)), "< a1b2c3d4 x"},
		{term(eq, num(0), num(7)), "= 0 7"},
		{term(eq, num(-1), num(10)), "= -1 10"},
		{term(lt, num(-1000), num(1000)), "< -1000 1000"},
		{term(lt, num(-907), num(100)), "< -907 100"},
		{term(eq, add, variable(0), num(1), num(2)), "= + x 1 2"},
		{term(eq, sub, variable(0), num(-1), num(2)), "= - x -1 2"},
		{term(eq, num(2), mul, variable(0), num(1)), "= 2 * x 1"},
		{term(and, lt, add, variable(0), sub, num(1), num(2), mul, num(3), variable(1), not, or, yes, eq, num(4), num(5)), "& < + x - 1 2 * 3 a1b2c3d4 ! | yes = 4 5"},
	} {
		both(t, api.Task{Model: m, Props: terms(c.truth), Formula: term(prop(0))}, text(append(head, "prop "+c.words, "check P0")...))
		rule := m
		rule.Rules = []api.Rule{when(c.truth)}
		both(t, api.Task{Model: rule, Formula: term(no)}, text(append(head, "rule "+c.words, "check no")...))
	}
	for _, c := range []struct {
		formula []api.Op
		words   string
	}{
		{term(yes), "yes"},
		{term(no), "no"},
		{term(prop(0)), "P0"},
		{term(prop(5)), "P5"},
		{term(not, prop(1)), "! P1"},
		{term(and, prop(2), prop(3)), "& P2 P3"},
		{term(or, prop(3), prop(2)), "| P3 P2"},
		{term(next, prop(4)), "X P4"},
		{term(until, prop(0), prop(1)), "U P0 P1"},
		{term(release, prop(1), prop(0)), "R P1 P0"},
		{term(finally, prop(0)), "F P0"},
		{term(globally, prop(0)), "G P0"},
		{term(globally, or, not, prop(0), until, next, yes, release, finally, prop(5), no), "G | ! P0 U X yes R F P5 no"},
	} {
		both(t, api.Task{Props: slices.Repeat(terms(term(yes)), 6), Formula: c.formula}, text(append(slices.Repeat([]string{"prop yes"}, 6), "check "+c.words)...))
	}
}

// P10.1: each number that may be written.
func TestNumbers(t *testing.T) {
	for n := -api.MaxConst; n <= api.MaxConst; n++ {
		s := strconv.Itoa(n)
		both(t, api.Task{
			Model:   api.Model{Vars: []api.Variable{from("n", n, n)}, Rules: []api.Rule{when(term(yes), set(0, num(n)))}},
			Props:   terms(term(eq, num(n), num(n))),
			Formula: term(prop(0)),
		}, text("var n "+s+" "+s+" "+s, "rule yes", "set n "+s, "prop = "+s+" "+s, "check P0"))
	}
}

// P10.2: which lines there are, and in which order.
func TestLines(t *testing.T) {
	both(t, api.Task{Formula: term(yes)}, "check yes\n")
	both(t, api.Task{Formula: term(until, yes, no)}, "check U yes no\n")
	both(t, api.Task{Props: terms(term(no)), Formula: term(prop(0))}, "prop no\ncheck P0\n")
	both(t, api.Task{Model: api.Model{Rules: []api.Rule{when(term(no))}}, Formula: term(yes)}, "rule no\ncheck yes\n")
	// a variable's Low, High and Init
	both(t, api.Task{Model: api.Model{Vars: []api.Variable{{Name: "z", Low: -3, High: 5, Init: 4}}}, Formula: term(no)}, "var z -3 5 4\ncheck no\n")
	// several of each; sets stand behind their rule, in their order, whatever the variables' order is
	both(t, api.Task{
		Model: api.Model{
			Vars: []api.Variable{{Name: "b", Low: 1, High: 3, Init: 2}, {Name: "a", Low: -1, High: 0, Init: 0}, {Name: "c", Low: 10, High: 10, Init: 10}},
			Rules: []api.Rule{
				when(term(yes)),
				when(term(lt, variable(0), variable(2)), set(2, variable(1)), set(0, num(3)), set(1, sub, variable(0), num(1))),
				when(term(no)),
				when(term(not, no), set(1, num(-1))),
				when(term(yes)),
			},
		},
		Props:   terms(term(yes), term(eq, variable(2), num(10)), term(yes)),
		Formula: term(release, prop(2), or, prop(0), prop(1)),
	}, text(
		"var b 1 3 2", "var a -1 0 0", "var c 10 10 10",
		"rule yes",
		"rule < b c", "set c a", "set b 3", "set a - b 1",
		"rule no",
		"rule ! no", "set a -1",
		"rule yes",
		"prop yes", "prop = c 10", "prop yes",
		"check R P2 | P0 P1",
	))
}

// P10.1 and P10.2: names that look like other words are names.
func TestNamesThatLookLikeWords(t *testing.T) {
	for _, name := range []string{"var", "rule", "set", "prop", "check", "x", "u", "r", "f", "g", "p", "p0", "yess", "yes1", "ye", "n", "no0", "noo", "a", "z9999999", "zzzzzzzz", "e1", "x1f", "inf", "nan", "true", "nil"} {
		m := api.Model{
			Vars:  []api.Variable{from(name, 0, 1)},
			Rules: []api.Rule{when(term(lt, variable(0), num(1)), set(0, variable(0)))},
		}
		both(t, api.Task{Model: m, Props: terms(term(eq, variable(0), variable(0))), Formula: term(prop(0))},
			text("var "+name+" 0 1 0", "rule < "+name+" 1", "set "+name+" "+name, "prop = "+name+" "+name, "check P0"))
	}
	// the word tells which of several variables it is
	names := []string{"set", "var", "v", "va", "vars", "rule"}
	m := api.Model{}
	var lines []string
	for _, name := range names {
		m.Vars = append(m.Vars, from(name, 0, 1))
		lines = append(lines, "var "+name+" 0 1 0")
	}
	for place := range names {
		both(t, api.Task{Model: m, Props: terms(term(eq, variable(place), num(1))), Formula: term(prop(0))}, text(append(slices.Clone(lines), "prop = "+names[place]+" 1", "check P0")...))
	}
}

// wrongModels, with what model's Check says of them.
func wrongModels() map[api.Errno][]api.Model {
	rule := when(term(yes))
	return map[api.Errno][]api.Model{
		api.ErrName:  {{Vars: []api.Variable{from("yes", 0, 1)}}, {Vars: []api.Variable{from("", 0, 1)}}, {Vars: []api.Variable{from("a b", 0, 1)}}, {Vars: []api.Variable{from("a\nb", 0, 1)}}, {Vars: []api.Variable{from("P0", 0, 1)}}},
		api.ErrTwice: {{Vars: []api.Variable{from("x", 0, 1), from("x", 0, 1)}}, line(2, when(term(yes), set(0, num(1)), set(0, num(1))))},
		api.ErrRange: {{Vars: []api.Variable{from("x", 1, 0)}}, {Vars: []api.Variable{{Name: "x", High: 2, Init: 3}}}, {Vars: []api.Variable{from("x", math.MinInt, math.MaxInt)}}, line(2, when(term(yes), set(1, num(1)))), line(2, when(term(yes), set(-1, num(1)))), line(2, when(term(yes), set(math.MaxInt, num(1))))},
		api.ErrSize:  {line(65), {Vars: make([]api.Variable, 7)}, {Vars: []api.Variable{from("x", 0, 63), from("y", 0, 63), from("z", 0, 1)}}, line(2, slices.Repeat([]api.Rule{rule}, 13)...), line(2, when(term(yes), make([]api.Set, 7)...))},
		api.ErrShort: {line(2, api.Rule{}), line(2, rule, when(term(yes), set(0)))},
		api.ErrType:  {line(2, when(term(num(1)))), line(2, when(term(no), set(0, yes)))},
		api.ErrForm:  {line(2, rule, when(term(yes, yes)))},
		api.ErrKind:  {line(2, when(term(prop(0)))), line(2, when(term(api.Op{}))), line(2, when(term(yes), set(0, api.Op{Kind: math.MaxInt})))},
	}
}

// wrongProps for a line, with what model's Props says of them.
func wrongProps() map[api.Errno][][][]api.Op {
	return map[api.Errno][][][]api.Op{
		api.ErrSize:  {slices.Repeat(terms(term(yes)), 7), slices.Repeat(terms(nil), 7), terms(term(yes), slices.Repeat(term(not), 61))},
		api.ErrType:  {terms(term(num(1))), terms(term(yes), term(variable(0))), terms(term(not, num(1)))},
		api.ErrShort: {terms(nil), terms(term(yes), term(not)), terms(term(yes), nil, term(num(1)))},
		api.ErrForm:  {terms(term(yes, yes))},
		api.ErrKind:  {terms(term(prop(0))), terms(term(yes), term(finally, yes)), terms(term(api.Op{}))},
		api.ErrRange: {terms(term(eq, variable(1), num(1))), terms(term(eq, num(1001), num(1))), terms(term(api.Op{Kind: api.Yes, Value: 1}))},
	}
}

// wrongFormulas over two propositions, with what logic's Check says of them.
func wrongFormulas() map[api.Errno][][]api.Op {
	return map[api.Errno][][]api.Op{
		api.ErrShort: {nil, term(until, yes), term(finally)},
		api.ErrForm:  {term(yes, yes), term(next, prop(0), prop(1))},
		api.ErrKind:  {term(num(1)), term(variable(0)), term(eq, num(1), num(1)), term(finally, api.Op{Kind: 19}), term(api.Op{Kind: -1}), term(api.Op{Kind: math.MinInt})},
		api.ErrRange: {term(prop(2)), term(prop(-1)), term(finally, prop(math.MaxInt)), term(api.Op{Kind: api.Not, Value: 1}, yes)},
		api.ErrSize:  {append(slices.Repeat(term(next), api.MaxTempo+1), yes), slices.Repeat(term(not), api.MaxOps+1)},
	}
}

// P10.2: refused is what product's Check refuses, with the same error.
func TestShowRefuses(t *testing.T) {
	notShown(t, api.Task{}, api.ErrShort)
	two := terms(term(yes), term(eq, variable(0), num(1)))
	for e, models := range wrongModels() {
		for _, m := range models {
			notShown(t, api.Task{Model: m, Props: two, Formula: term(yes)}, e)
			notShown(t, api.Task{Model: m, Props: slices.Repeat(terms(nil), 7), Formula: term(num(1), num(2))}, e)
		}
	}
	for e, lists := range wrongProps() {
		for _, l := range lists {
			notShown(t, api.Task{Model: line(2), Props: l, Formula: term(yes)}, e)
			notShown(t, api.Task{Model: line(2), Props: l}, e)
		}
	}
	for e, formulas := range wrongFormulas() {
		for _, f := range formulas {
			notShown(t, api.Task{Model: line(2), Props: two, Formula: f}, e)
		}
	}
}

// P10.3: texts that no right task has.
func TestWrongTexts(t *testing.T) {
	for _, s := range []string{
		"", "\n", " ", "\n\n", "check", "check\n", "check \n", "check  \n", "yes\n", "F P0\n",
		// blanks and line feeds
		"check yes", "check yes\n\n", "\ncheck yes\n", " check yes\n", "check yes \n", "check  yes\n", "check\tyes\n", "check yes\r\n", "check yes\n ", "check\nyes\n", "checkyes\n", "check yes\x00\n", "check yes\v\n", "check yes\u00a0\n", "\ufeffcheck yes\n", "check yes\u2028",
		"prop yes\n\ncheck yes\n", "prop yes check yes\n", "prop yes\rcheck yes\n",
		// words that are none
		"Check yes\n", "CHECK yes\n", "check Yes\n", "check YES\n", "check y\n", "check yesno\n", "check true\n", "check 1\n", "check !yes\n", "check &yes yes\n", "check x yes\n", "check f yes\n", "check && yes no\n", "check ! ! yes no\n", "check yes yes\n", "check ~ yes\n", "check \xff\n", "check -\n", "check --1\n",
		// propositions
		"check P0\n", "check P\n", "prop yes\ncheck P1\n", "prop yes\ncheck P00\n", "prop yes\ncheck P-0\n", "prop yes\ncheck P+0\n", "prop yes\ncheck p0\n", "prop yes\ncheck P 0\n", "prop yes\ncheck 0\n", "prop yes\ncheck P\n", "prop yes\ncheck P0P0\n", "prop yes\ncheck PP0\n", "prop yes\ncheck P0x\n", "prop yes\ncheck P0.0\n", "prop yes\ncheck P-1\n", "prop yes\ncheck P18446744073709551616\n", "prop yes\ncheck P0x0\n", "prop yes\ncheck P0_0\n",
		// kinds that only the others have, and what makes no truth or no number
		"check = 1 1\n", "check < 1 2\n", "check + 1 2\n", "check - 1 2\n", "check * 1 2\n", "prop P0\ncheck yes\n", "prop F yes\ncheck yes\n", "prop X yes\ncheck yes\n", "prop U yes yes\ncheck yes\n", "rule G yes\ncheck yes\n", "rule R yes yes\ncheck yes\n", "prop 1\ncheck yes\n", "rule 1\ncheck yes\n", "prop = yes yes\ncheck yes\n", "prop ! 1\ncheck yes\n",
		// too short, too long
		"check &\n", "check & yes\n", "check U yes\n", "prop\ncheck yes\n", "prop \ncheck yes\n", "rule\ncheck yes\n", "rule \ncheck yes\n", "prop = 1\ncheck yes\n", "prop = 1 1 1\ncheck yes\n", "rule ! yes no\ncheck yes\n",
		// the order of lines, and how many there are
		"prop yes\n", "rule yes\n", "check yes\ncheck yes\n", "check no\ncheck yes\n", "check yes\nprop yes\n", "check yes\nrule yes\n", "check yes\nvar x 0 1 0\n", "prop yes\nrule yes\ncheck yes\n", "rule yes\nvar x 0 1 0\ncheck yes\n", "prop yes\nvar x 0 1 0\ncheck yes\n", "check\ncheck yes\n", "check 7\ncheck yes\n",
		// lines that are none
		"task\ncheck yes\n", "vars x 0 1 0\ncheck yes\n", "Var x 0 1 0\ncheck yes\n", "# x\ncheck yes\n", "props yes\ncheck yes\n", "+ 1 2\ncheck yes\n", "rule: yes\ncheck yes\n",
	} {
		notRead(t, s, api.ErrForm)
	}
}

// P10.3: variables that no right task has.
func TestWrongVariables(t *testing.T) {
	both(t, api.Task{Model: api.Model{Vars: []api.Variable{{Name: "x", Low: 0, High: 10, Init: 1}}}, Formula: term(yes)}, "var x 0 10 1\ncheck yes\n")
	for _, s := range []string{
		"", " ", "x", "x 0", "x 0 10", "x 0 10 1 1", "x 0 10 1 ", " x 0 10 1", "x  0 10 1", "0 x 10 1", "0 10 1", "0 0 10 1", "x x 10 1", "x 0 10 x", "x, 0, 10, 1",
		// names
		"yes 0 10 1", "no 0 10 1", "X 0 10 1", "P0 0 10 1", "1x 0 10 1", "x_ 0 10 1", "x- 0 10 1", "abcdefghi 0 10 1", "é 0 10 1", "+ 0 10 1", "x\x00 0 10 1",
		// numbers that are written otherwise
		"x 00 10 1", "x +0 10 1", "x -0 10 1", "x 0 010 1", "x 0 +10 1", "x 0 10 01", "x 0 10 +1", "x 0x0 10 1", "x 0 0xa 1", "x 0 0b1010 1", "x 0 1_0 1", "x 0 1e1 1", "x 0 10.0 1", "x 0 10. 1", "x 0 ten 1", "x - 10 1", "x 0 10 -", "x 0 10 --1", "x 0 ١٠ 1", "x 0 10 1a", "x 0 10 \xff", "x yes 10 1",
		// numbers that may not be
		"x 0 10 11", "x 0 10 -1", "x 10 0 1", "x 2 10 1", "x 0 64 1", "x -1001 -1000 -1000", "x 1000 1001 1000", "x 0 1000 1", "x 18446744073709551616 10 1", "x 0 18446744073709551626 1", "x 0 10 18446744073709551617", "x -9223372036854775808 9223372036854775807 1", "x -9223372036854775809 10 1", "x 0 9223372036854775808 1", "x 0 4294967306 1", "x 0 10 4294967297", "x 0 " + strings.Repeat("9", 400) + " 1", "x 0 10 " + strings.Repeat("0", 400) + "1",
	} {
		notRead(t, "var "+s+"\ncheck yes\n", api.ErrForm)
	}
	notRead(t, "var\ncheck yes\n", api.ErrForm)
	notRead(t, "var x 0 1 0\nvar x 0 1 0\ncheck yes\n", api.ErrForm)
	notRead(t, "var x 0 1 0\nvar x 0 2 0\nprop = x 1\ncheck yes\n", api.ErrForm)
	notRead(t, "var yes 0 1 0\nprop yes\ncheck P0\n", api.ErrForm)
}

// P10.3: rules and sets that no right task has.
func TestWrongSets(t *testing.T) {
	x := line(2, when(term(yes), set(0, num(1))))
	both(t, api.Task{Model: x, Formula: term(yes)}, "var x 0 1 0\nrule yes\nset x 1\ncheck yes\n")
	for _, s := range []string{
		"set x 1", "set x 1\nrule yes", "rule yes\nset", "rule yes\nset ", "rule yes\nset x", "rule yes\nset x ", "rule yes\nset 1", "rule yes\nset y 1", "rule yes\nset X 1", "rule yes\nset 0 1", "rule yes\nset yes 1", "rule yes\nset P0 1",
		"rule yes\nset x 1\nset x 1", "rule yes\nset x yes", "rule yes\nset x 1 1", "rule yes\nset x + 1", "rule yes\nset x 01", "rule yes\nset x +1", "rule yes\nset x 1001", "rule yes\nset x -1001", "rule yes\nset x -0", "rule yes\nset x y", "rule yes\nset x P0", "rule yes\nset x 18446744073709551617",
		"rule yes\n\nset x 1", "rule yes\nprop yes\nset x 1", "rule yes set x 1", "rule yes\nset x = 1", "rule yes\nset x := 1", "rule x", "rule = x", "rule = x y", "rule = x X", "rule = y 1", "rule = x x x", "rule y",
	} {
		notRead(t, "var x 0 1 0\n"+s+"\ncheck yes\n", api.ErrForm)
	}
	notRead(t, "rule yes\nset x 1\ncheck yes\n", api.ErrForm)
	notRead(t, "rule yes\nset x 1\nvar x 0 1 0\ncheck yes\n", api.ErrForm)
	notRead(t, "rule = x 1\nvar x 0 1 0\ncheck yes\n", api.ErrForm)
	notRead(t, "var x 0 1 0\nrule yes\ncheck yes\nset x 1\n", api.ErrForm)
}

// manyVars: so many variables with one value each.
func manyVars(many int) ([]api.Variable, []string) {
	var vars []api.Variable
	var lines []string
	for i := range many {
		name := "v" + strconv.Itoa(i)
		vars = append(vars, from(name, 0, 0))
		lines = append(lines, "var "+name+" 0 0 0")
	}
	return vars, lines
}

// P10.3: at the limits a text is read, and one beyond them it is that of no right task.
func TestLimits(t *testing.T) {
	within := func(many, most int, task api.Task, s string) {
		t.Helper()
		if many <= most {
			both(t, task, s)
		} else {
			notShown(t, task, api.ErrSize)
			notRead(t, s, api.ErrForm)
		}
	}
	for _, many := range []int{api.MaxVars - 1, api.MaxVars, api.MaxVars + 1} {
		vars, lines := manyVars(many)
		within(many, api.MaxVars, api.Task{Model: api.Model{Vars: vars}, Formula: term(yes)}, text(append(lines, "check yes")...))
	}
	for _, many := range []int{api.MaxRules, api.MaxRules + 1, 500} {
		within(many, api.MaxRules, api.Task{Model: api.Model{Rules: slices.Repeat([]api.Rule{when(term(no))}, many)}, Formula: term(yes)}, strings.Repeat("rule no\n", many)+"check yes\n")
	}
	for _, many := range []int{api.MaxProps, api.MaxProps + 1, 500} {
		within(many, api.MaxProps, api.Task{Props: slices.Repeat(terms(term(no)), many), Formula: term(yes)}, strings.Repeat("prop no\n", many)+"check yes\n")
	}
	for _, many := range []int{api.MaxOps, api.MaxOps + 1, 3000} {
		l := append(slices.Repeat(term(not), many-1), yes)
		words := strings.Repeat("! ", many-1) + "yes\n"
		within(many, api.MaxOps, api.Task{Formula: l}, "check "+words)
		within(many, api.MaxOps, api.Task{Props: terms(l), Formula: term(yes)}, "prop "+words+"check yes\n")
		within(many, api.MaxOps, api.Task{Model: api.Model{Rules: []api.Rule{when(l)}}, Formula: term(yes)}, "rule "+words+"check yes\n")
	}
	for _, many := range []int{api.MaxTempo, api.MaxTempo + 1} {
		within(many, api.MaxTempo, api.Task{Formula: append(slices.Repeat(term(next), many), yes)}, "check "+strings.Repeat("X ", many)+"yes\n")
	}
	vars, lines := manyVars(api.MaxSets)
	rule := when(term(yes))
	lines = append(lines, "rule yes")
	for i := range vars {
		rule.Sets = append(rule.Sets, set(i, num(0)))
		lines = append(lines, "set v"+strconv.Itoa(i)+" 0")
	}
	both(t, api.Task{Model: api.Model{Vars: vars, Rules: []api.Rule{rule}}, Formula: term(yes)}, text(append(lines, "check yes")...))
	notRead(t, text(append(lines, "set v0 0", "check yes")...), api.ErrForm)
	both(t, api.Task{Model: api.Model{Vars: []api.Variable{from("x", 0, 63), from("y", 0, 63)}}, Formula: term(yes)}, "var x 0 63 0\nvar y 0 63 0\ncheck yes\n")
	notRead(t, "var x 0 63 0\nvar y 0 63 0\nvar z 0 1 0\ncheck yes\n", api.ErrForm)
}

// wide task, whose text has just so many bytes, from 9118 to 17758: most of its numbers have one digit, and are made longer one by one.
func wide(bytes int) api.Task {
	task := api.Task{Formula: term(yes)}
	for i := range 6 {
		task.Model.Vars = append(task.Model.Vars, from(string(rune('a'+i)), 0, 1))
	}
	missing := bytes - 9118
	for range 12 {
		rule := when(term(yes))
		for i := range 6 {
			value := append(slices.Repeat(term(add, num(0)), 29), num(0))
			for place, op := range value {
				if op.Kind == api.Num {
					more := min(missing, 4)
					value[place] = num([]int{0, 10, 100, 1000, -1000}[more])
					missing -= more
				}
			}
			rule.Sets = append(rule.Sets, set(i, value...))
		}
		task.Model.Rules = append(task.Model.Rules, rule)
	}
	return task
}

// P10.3: at most MaxText bytes; ErrSize is named ahead of ErrForm.
func TestHowManyBytes(t *testing.T) {
	most := wide(api.MaxText)
	s, e := sheet.Show(most)
	if len(s) != 10000 || e != api.OK {
		t.Fatalf("the text has %d bytes, %v", len(s), e)
	}
	reads(t, s, most)
	over := wide(api.MaxText + 1)
	s, e = sheet.Show(over)
	if len(s) != 10001 || s != secondShow(over) || e != api.OK {
		t.Fatalf("the text has %d bytes, %v", len(s), e)
	}
	notRead(t, s, api.ErrSize)
	for _, piece := range []string{"a", " ", "\n", "check yes\n", "0", "\x00", "\xff", "é", "var x 0 1 0\n", "rule yes\n", "set x 1\n", "prop yes\n", "check ", "P", "-", "& "} {
		full := strings.Repeat(piece, 10001)
		notRead(t, full[:9999], api.ErrForm)
		notRead(t, full[:10000], api.ErrForm)
		notRead(t, full[:10001], api.ErrSize)
		notRead(t, full, api.ErrSize)
	}
	notRead(t, strings.Repeat("x", 1<<24), api.ErrSize)
	notRead(t, "check yes\n"+strings.Repeat("\n", 9991), api.ErrSize)
	notRead(t, "check yes\n"+strings.Repeat("\n", 9990), api.ErrForm)
}

// P10.2: Show has no limit of its own: the longest text that a right task has.
func TestLongestText(t *testing.T) {
	m := api.Model{}
	for i := range api.MaxVars {
		m.Vars = append(m.Vars, from("abcdefg"+strconv.Itoa(i), -1000, -1000))
	}
	number := append(slices.Repeat(term(add, variable(3)), 29), variable(4))
	truth := slices.Concat(term(not, lt), slices.Repeat(term(add, variable(1)), 28), term(variable(5), variable(2)))
	rule := when(truth)
	for i := range api.MaxSets {
		rule.Sets = append(rule.Sets, set(i, number...))
	}
	m.Rules = slices.Repeat([]api.Rule{rule}, api.MaxRules)
	task := api.Task{Model: m, Props: slices.Repeat(terms(truth), api.MaxProps), Formula: slices.Concat(slices.Repeat(term(and, yes), 29), term(prop(5)))}
	want := secondShow(task)
	if len(want) < 20000 {
		t.Errorf("the text has %d bytes", len(want))
	}
	shows(t, task, want)
	notRead(t, want, api.ErrSize)
}

// secondShow: a second reading of the chapter, of a task that is right.
func secondShow(t api.Task) string {
	word := func(op api.Op) string {
		switch op.Kind {
		case api.Num:
			return fmt.Sprint(op.Value)
		case api.Var:
			return t.Model.Vars[op.Value].Name
		case api.Prop:
			return fmt.Sprintf("P%d", op.Value)
		}
		return map[int]string{3: "+", 4: "-", 5: "*", 6: "=", 7: "<", 8: "&", 9: "|", 10: "!", 11: "yes", 12: "no", 14: "X", 15: "U", 16: "R", 17: "F", 18: "G"}[op.Kind]
	}
	s := ""
	end := func(l []api.Op) {
		for _, op := range l {
			s += " " + word(op)
		}
		s += "\n"
	}
	for _, v := range t.Model.Vars {
		s += fmt.Sprintf("var %s %d %d %d\n", v.Name, v.Low, v.High, v.Init)
	}
	for _, r := range t.Model.Rules {
		s += "rule"
		end(r.Guard)
		for _, x := range r.Sets {
			s += "set " + t.Model.Vars[x.Var].Name
			end(x.Value)
		}
	}
	for _, l := range t.Props {
		s += "prop"
		end(l)
	}
	s += "check"
	end(t.Formula)
	return s
}

// form of the texts, written as one expression: what fits may still be the text of no right task.
var form = func() *regexp.Regexp {
	number := `(?:0|-?[1-9][0-9]*)`
	name := `[a-z][a-z0-9]{0,7}`
	words := `(?: (?:[-+*=<&|!XURFG]|P(?:0|[1-9][0-9]*)|` + number + `|` + name + `))+`
	return regexp.MustCompile(`\A(?:var ` + name + `(?: ` + number + `){3}\n)*(?:rule` + words + `\n(?:set ` + name + words + `\n)*)*(?:prop` + words + `\n)*check` + words + `\n\z`)
}()

// secondRead: a second reading of the chapter, by the form of texts. With what does not fit, there is no task.
func secondRead(s string) (t api.Task, right bool) {
	if len(s) > 10000 || !form.MatchString(s) {
		return api.Task{}, false
	}
	defer func() { // a word that is none
		if r := recover(); r != nil {
			t, right = api.Task{}, false
		}
	}()
	places := map[string]int{}
	number := func(s string) int {
		n, err := strconv.ParseInt(s, 10, 64)
		if err != nil {
			panic(err)
		}
		return int(n)
	}
	place := func(name string) int {
		p, there := places[name]
		if !there {
			panic(name)
		}
		return p
	}
	term := func(l []string) (ops []api.Op) {
		for _, w := range l {
			kind := slices.Index(strings.Fields("+ - * = < & | ! yes no . X U R F G"), w) + 3
			switch {
			case kind > 2:
				ops = append(ops, api.Op{Kind: kind})
			case w[0] == 'P':
				ops = append(ops, prop(number(w[1:])))
			case w[0] >= 'a':
				ops = append(ops, variable(place(w)))
			default:
				ops = append(ops, num(number(w)))
			}
		}
		return ops
	}
	for _, row := range strings.Split(strings.TrimSuffix(s, "\n"), "\n") {
		l := strings.Fields(row)
		switch l[0] {
		case "var":
			places[l[1]] = len(t.Model.Vars)
			t.Model.Vars = append(t.Model.Vars, api.Variable{Name: l[1], Low: number(l[2]), High: number(l[3]), Init: number(l[4])})
		case "rule":
			t.Model.Rules = append(t.Model.Rules, api.Rule{Guard: term(l[1:])})
		case "set":
			sets := &t.Model.Rules[len(t.Model.Rules)-1].Sets
			*sets = append(*sets, api.Set{Var: place(l[1]), Value: term(l[2:])})
		case "prop":
			t.Props = append(t.Props, term(l[1:]))
		case "check":
			t.Formula = term(l[1:])
		}
	}
	if product.Check(t) != api.OK {
		return api.Task{}, false
	}
	return t, true
}

// hold Read against the second reading; and what is read is shown as it was. Is there a task?
func hold(t *testing.T, s string) bool {
	t.Helper()
	want, right := secondRead(s)
	if !right {
		notRead(t, s, api.ErrForm)
		return false
	}
	both(t, want, s)
	return true
}

// everyFormula over two propositions of up to so many ops.
func everyFormula(most int) [][]api.Op {
	ops := term(prop(0), prop(1), yes, no, not, and, or, next, until, release, finally, globally)
	bySize := [][][]api.Op{nil}
	for size := 1; size <= most; size++ {
		var made [][]api.Op
		for _, op := range ops {
			parts, _ := polish.Parts(op.Kind)
			switch {
			case parts == 0 && size == 1:
				made = append(made, term(op))
			case parts == 1:
				for _, part := range bySize[size-1] {
					made = append(made, slices.Concat(term(op), part))
				}
			case parts == 2:
				for firstSize := 1; firstSize < size-1; firstSize++ {
					for _, first := range bySize[firstSize] {
						for _, second := range bySize[size-1-firstSize] {
							made = append(made, slices.Concat(term(op), first, second))
						}
					}
				}
			}
		}
		bySize = append(bySize, made)
	}
	return slices.Concat(bySize...)
}

// P10.1 to P10.3: every short formula; no two have the same text.
func TestEveryShortFormula(t *testing.T) {
	met := map[string][]api.Op{}
	for _, f := range everyFormula(4) {
		task := api.Task{Props: terms(term(yes), term(no)), Formula: f}
		s := secondShow(task)
		both(t, task, s)
		if other, twice := met[s]; twice {
			t.Errorf("%v and %v have the same text %q", f, other, s)
		}
		met[s] = f
	}
}

// P10.3: every line of up to four words, as a formula, a proposition, a guard and a set.
func TestEveryShortLine(t *testing.T) {
	for _, c := range []struct {
		ahead, behind string
		words         []string
		most          int
		least         int // so many of the lines are right
	}{
		{"prop yes\ncheck", "\n", strings.Split("yes|no|P0|!|&|X|U|P1|0|=|x||G", "|"), 4, 100},
		{"var x 0 1 0\nprop", "\ncheck yes\n", strings.Split("yes|!|x|y|0|-1|=|<|-|-0|P0||X", "|"), 4, 30},
		{"var x 0 1 0\nrule", "\ncheck yes\n", strings.Split("yes|no|!|x|0|=|+|&", "|"), 5, 100},
		{"var x 0 1 0\nrule yes\nset", "\ncheck yes\n", strings.Split("yes|x|y|0|-1|=|+|-|*|01|1000|", "|"), 4, 30},
		{"var", "\ncheck yes\n", strings.Split("x|yes|0|1|-1|-|2|01", "|"), 5, 10},
	} {
		right := 0
		lines := []string{""}
		for range c.most + 1 {
			var longer []string
			for _, l := range lines {
				if hold(t, c.ahead+l+c.behind) {
					right++
				}
				for _, w := range c.words {
					longer = append(longer, l+" "+w)
				}
			}
			lines = longer
		}
		if right < c.least {
			t.Errorf("%q: only %d lines are right", c.ahead, right)
		}
	}
}

// die: numbers that look drawn, the same each time.
type die uint64

func (d *die) below(most int) int {
	*d = *d*6364136223846793005 + 1442695040888963407
	return int(uint64(*d>>33) % uint64(most))
}

// written number that looks drawn, mostly a short one.
func (d *die) written() api.Op {
	if d.below(4) == 0 {
		return num(d.below(2001) - 1000)
	}
	return num(d.below(23) - 11)
}

// number over so many variables that looks drawn.
func (d *die) number(many, deep int) []api.Op {
	kind := d.below(8)
	switch {
	case (kind < 3 || deep == 0) && many > 0:
		return term(variable(d.below(many)))
	case kind < 5 || deep == 0:
		return term(d.written())
	}
	return slices.Concat(term([]api.Op{add, sub, mul}[kind-5]), d.number(many, deep-1), d.number(many, deep-1))
}

// truth over so many variables that looks drawn.
func (d *die) truth(many, deep int) []api.Op {
	switch kind := d.below(9); {
	case kind == 0 || deep == 0:
		return term([]api.Op{yes, yes, no}[d.below(3)])
	case kind == 1:
		return slices.Concat(term(not), d.truth(many, deep-1))
	case kind < 4:
		return slices.Concat(term([]api.Op{and, or}[d.below(2)]), d.truth(many, deep-1), d.truth(many, deep-1))
	}
	return slices.Concat(term([]api.Op{eq, lt}[d.below(2)]), d.number(many, 2), d.number(many, 2))
}

// name that looks drawn; some look like other words.
func (d *die) name() string {
	if d.below(3) == 0 {
		return []string{"var", "rule", "set", "prop", "check", "x", "u", "p0", "yess", "n", "a", "no1"}[d.below(12)]
	}
	s := string(rune('a' + d.below(26)))
	for range d.below(8) {
		s += string("abcdefghijklmnopqrstuvwxyz0123456789"[d.below(36)])
	}
	return s
}

// vars that look drawn.
func (d *die) vars() []api.Variable {
	var l []api.Variable
	for range d.below(api.MaxVars + 1) {
		v := from(d.name(), d.below(1990)-1000, 0)
		if d.below(2) == 0 {
			v.Low = d.below(7) - 3
		}
		v.High = v.Low + d.below(4)
		v.Init = v.Low + d.below(v.High-v.Low+1)
		if v.Name != "yes" && v.Name != "no" && !slices.ContainsFunc(l, func(o api.Variable) bool { return o.Name == v.Name }) {
			l = append(l, v)
		}
	}
	return l
}

// model that looks drawn.
func (d *die) model() api.Model {
	m := api.Model{Vars: d.vars()}
	many := len(m.Vars)
	for range d.below(6) {
		r := api.Rule{Guard: d.truth(many, d.below(4))}
		shift := d.below(many + 1)
		for i := range d.below(many + 1) {
			r.Sets = append(r.Sets, set((i+shift)%many, d.number(many, 2)...))
		}
		m.Rules = append(m.Rules, r)
	}
	return m
}

// formula over so many propositions that looks drawn.
func (d *die) formula(deep, props int) []api.Op {
	if deep == 0 || d.below(12) == 0 {
		if props == 0 || d.below(12) == 0 {
			return term([]api.Op{yes, no}[d.below(2)])
		}
		return term(prop(d.below(props)))
	}
	l := term([]api.Op{and, or, not, not, next, next, until, release, finally, globally}[d.below(10)])
	parts, _ := polish.Parts(l[0].Kind)
	for range parts {
		l = append(l, d.formula(deep-1, props)...)
	}
	return l
}

// task that looks drawn.
func (d *die) task() api.Task {
	t := api.Task{Model: d.model()}
	for range d.below(api.MaxProps + 1) {
		t.Props = append(t.Props, d.truth(len(t.Model.Vars), 2))
	}
	for {
		t.Formula = d.formula(1+d.below(5), len(t.Props))
		if e := logic.Check(t.Formula, len(t.Props)); e == api.OK {
			return t
		}
	}
}

// What is shown is read, and what is read is shown as it was.
func TestDrawn(t *testing.T) {
	d := die(10)
	for range 3000 {
		task := d.task()
		if e := product.Check(task); e != api.OK {
			t.Fatalf("Check(%v): %v", task, e)
		}
		both(t, task, secondShow(task))
	}
}

// P10.3: each text that is one byte off: left out, put in, or changed.
func TestEveryByteOff(t *testing.T) {
	bytes := "\x00\t\n\r !\"&*+,-./0123456789:<=>FGPRUX_abenorsuvxyz|\x7f\xc3\xff"
	m := api.Model{
		Vars:  []api.Variable{{Name: "x", Low: -1, High: 12, Init: 10}, from("yesx", 0, 3)},
		Rules: []api.Rule{when(term(lt, variable(0), num(3)), set(0, sub, variable(0), num(-1)), set(1, num(1))), when(term(no))},
	}
	right := 0
	for _, task := range []api.Task{
		{Model: m, Props: terms(term(eq, variable(1), num(30)), term(yes)), Formula: term(until, prop(0), globally, prop(1))},
		counter(),
		{Formula: term(no)},
		{Props: slices.Repeat(terms(term(no)), 2), Formula: term(or, prop(0), prop(1))},
	} {
		s := secondShow(task)
		both(t, task, s)
		for place := range len(s) + 1 {
			if place < len(s) && hold(t, s[:place]+s[place+1:]) {
				right++
			}
			for b := range len(bytes) {
				if hold(t, s[:place]+bytes[b:b+1]+s[place:]) {
					right++
				}
				if place < len(s) && hold(t, s[:place]+bytes[b:b+1]+s[place+1:]) {
					right++
				}
			}
			hold(t, s[:place])
			hold(t, s[place:])
		}
	}
	if right < 500 {
		t.Errorf("only %d of the texts are right", right)
	}
}

// P10.3: drawn texts with a line or a word moved, doubled, left out or taken from another text.
func TestDrawnTextsOff(t *testing.T) {
	d := die(310)
	right, wrong := 0, 0
	for range 4000 {
		l := strings.SplitAfter(secondShow(d.task()), "\n")
		other := strings.SplitAfter(secondShow(d.task()), "\n")
		l, other = l[:len(l)-1], other[:len(other)-1]
		from, to := d.below(len(l)), d.below(len(l))
		switch d.below(6) {
		case 0:
			l[from], l[to] = l[to], l[from]
		case 1:
			l = slices.Delete(l, from, from+1)
		case 2:
			l = slices.Insert(l, to, l[from])
		case 3:
			l = slices.Insert(l, to, other[d.below(len(other))])
		default:
			words := strings.Split(l[from], " ")
			from, to := d.below(len(words)), d.below(len(words))
			switch d.below(4) {
			case 0:
				words[from], words[to] = words[to], words[from]
			case 1:
				words = slices.Delete(words, from, from+1)
			case 2:
				words = slices.Insert(words, to, words[from])
			case 3:
				words[from] = []string{"yes", "no", "0", "-1", "x", "P0", "P1", "!", "+", "-", "F", "R", "1000", "1001"}[d.below(14)]
			}
			l[d.below(len(l))] = strings.Join(words, " ")
		}
		if hold(t, strings.Join(l, "")) {
			right++
		} else {
			wrong++
		}
	}
	if right < 500 || wrong < 500 {
		t.Errorf("%d texts are right, and %d wrong", right, wrong)
	}
}

// whole list, copied up to its cap.
func whole[T any](l []T) []T { return append([]T(nil), l[:cap(l)]...) }

// cloneOf a task, with the spare room of its lists.
func cloneOf(t api.Task) api.Task {
	c := api.Task{Model: api.Model{Vars: whole(t.Model.Vars), Rules: whole(t.Model.Rules)}, Props: whole(t.Props), Formula: whole(t.Formula)}
	for i, r := range c.Model.Rules {
		c.Model.Rules[i] = api.Rule{Guard: whole(r.Guard), Sets: whole(r.Sets)}
		for j, s := range c.Model.Rules[i].Sets {
			c.Model.Rules[i].Sets[j].Value = whole(s.Value)
		}
	}
	for i, l := range c.Props {
		c.Props[i] = whole(l)
	}
	return c
}

// What is handed in stays as it is, its spare room too.
func TestListsHandedInStay(t *testing.T) {
	up := when(term(lt, variable(0), num(3), num(9))[:3], set(0, add, variable(0), num(1)), set(7), set(1, yes))
	all := api.Task{
		Model:   api.Model{Vars: []api.Variable{from("x", 0, 3), from("y", 0, 1), from("no", 3, 2)}, Rules: []api.Rule{up, when(term(yes), set(0, num(2))), {}}},
		Props:   terms(term(yes, no, yes)[:1], term(eq, variable(0), num(2)), term(num(1))),
		Formula: term(until, prop(0), globally, next, prop(1), finally, prop(2), yes),
	}
	before := cloneOf(all)
	shown := 0
	for vars := range len(all.Model.Vars) + 1 {
		for rules := range len(all.Model.Rules) + 1 {
			for props := range len(all.Props) + 1 {
				for many := range len(all.Formula) + 1 {
					task := api.Task{Model: api.Model{Vars: all.Model.Vars[:vars], Rules: slices.Clone(all.Model.Rules[:rules])}, Props: all.Props[:props], Formula: all.Formula[:many]}
					if rules > 0 {
						task.Model.Rules[0].Sets = up.Sets[:1]
					}
					if _, e := sheet.Show(task); e == api.OK {
						shown++
					}
					if !reflect.DeepEqual(cloneOf(all), before) {
						t.Fatalf("%d variables, %d rules, %d propositions and %d ops handed in: %v is left", vars, rules, props, many, all)
					}
				}
			}
		}
	}
	if shown == 0 {
		t.Errorf("nothing was shown")
	}
}

// spoilt: a list is filled up to its cap.
func spoilt[T any](l []T, with T) {
	for i := range l[:cap(l)] {
		l[:cap(l)][i] = with
	}
}

// spoiler of one list of a task, and how many lists differ behind it.
type spoiler struct {
	spoil   func()
	changes int
}

// spoilers of all lists of a task but those that hold whole rules and propositions.
func spoilers(t *api.Task) []spoiler {
	bad := api.Op{Kind: -7, Value: -7}
	l := []spoiler{{func() { spoilt(t.Formula, bad) }, 1}}
	if len(t.Model.Vars) > 0 {
		l = append(l, spoiler{func() { spoilt(t.Model.Vars, api.Variable{Name: "spoilt"}) }, 1})
	}
	for i := range t.Props {
		l = append(l, spoiler{func() { spoilt(t.Props[i], bad) }, 1})
	}
	for i := range t.Model.Rules {
		r := &t.Model.Rules[i]
		l = append(l, spoiler{func() { spoilt(r.Guard, bad) }, 1})
		for j := range r.Sets {
			l = append(l, spoiler{func() { spoilt(r.Sets[j].Value, bad) }, 1})
		}
		l = append(l, spoiler{func() { spoilt(r.Sets, api.Set{Var: -7}) }, len(r.Sets)})
	}
	return l
}

// differences of two tasks: how many of their lists differ?
func differences(a, b api.Task) int {
	many := 0
	note := func(same bool) {
		if !same {
			many++
		}
	}
	note(slices.Equal(a.Formula, b.Formula))
	note(slices.Equal(a.Model.Vars, b.Model.Vars))
	for i := range a.Props {
		note(slices.Equal(a.Props[i], b.Props[i]))
	}
	for i, r := range a.Model.Rules {
		note(slices.Equal(r.Guard, b.Model.Rules[i].Guard))
		for j, s := range r.Sets {
			note(s.Var == b.Model.Rules[i].Sets[j].Var && slices.Equal(s.Value, b.Model.Rules[i].Sets[j].Value))
		}
	}
	return many
}

// Answers are new memory, spare room too: what is written there shows in no other answer and in no other list.
func TestAnswersAreNew(t *testing.T) {
	d := die(91)
	for range 300 {
		task := d.task()
		s := secondShow(task)
		other, _ := sheet.Read(s)
		for i := range spoilers(&task) {
			one, _ := sheet.Read(s)
			l := spoilers(&one)[i]
			l.spoil()
			if many := differences(one, task); many != l.changes {
				t.Errorf("list %d of what is read of %q spoilt: %d lists differ, want %d: %v", i, s, many, l.changes, one)
			}
			spoilt(one.Props, nil)
			spoilt(one.Model.Rules, api.Rule{})
		}
		if !same(other, task) {
			t.Errorf("behind a change of another answer, what was read of %q became %v", s, other)
		}
		both(t, task, s)
	}
}

// inside: does a text lie within the memory of another?
func inside(piece, s string) bool {
	at, begin := uintptr(unsafe.Pointer(unsafe.StringData(piece))), uintptr(unsafe.Pointer(unsafe.StringData(s)))
	return at >= begin && at < begin+uintptr(len(s))
}

// Names that are read are no pieces of the text, and what is shown is none of a name.
func TestTextsAreNew(t *testing.T) {
	d := die(92)
	named := 0
	for range 100 {
		s := secondShow(d.task())
		task, _ := sheet.Read(s)
		for _, v := range task.Model.Vars {
			named++
			if inside(v.Name, s) {
				t.Errorf("the name %q lies within the text %q", v.Name, s)
			}
			if shown, _ := sheet.Show(task); inside(v.Name, shown) {
				t.Errorf("the name %q lies within what is shown, %q", v.Name, shown)
			}
		}
	}
	if named == 0 {
		t.Errorf("no name was read")
	}
}
