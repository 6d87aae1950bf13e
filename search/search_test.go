package search_test

import (
	"encoding/binary"
	"math"
	"reflect"
	"slices"
	"testing"

	"foretell/api"
	"foretell/product"
	"foretell/search"
	"foretell/verdict"
)

func num(n int) api.Op { return api.Op{Kind: api.Num, Value: n} }

func variable(place int) api.Op { return api.Op{Kind: api.Var, Value: place} }

func prop(place int) api.Op { return api.Op{Kind: api.Prop, Value: place} }

var (
	add, sub, mul     = api.Op{Kind: api.Add}, api.Op{Kind: api.Sub}, api.Op{Kind: api.Mul}
	eq, lt            = api.Op{Kind: api.Eq}, api.Op{Kind: api.Lt}
	and, or, not      = api.Op{Kind: api.And}, api.Op{Kind: api.Or}, api.Op{Kind: api.Not}
	yes, no           = api.Op{Kind: api.Yes}, api.Op{Kind: api.No}
	next              = api.Op{Kind: api.Next}
	until, release    = api.Op{Kind: api.Until}, api.Op{Kind: api.Release}
	finally, globally = api.Op{Kind: api.Finally}, api.Op{Kind: api.Globally}
	save, start       = api.Move{Kind: api.Save}, api.Move{Kind: api.Start}
	all               = work(api.MaxNumber)
)

func work(many int) api.Move { return api.Move{Kind: api.Work, Many: many} }

func crash(keep int) api.Move { return api.Move{Kind: api.Crash, Many: keep} }

// moves, one behind the other.
func moves(l ...api.Move) []api.Move { return l }

// term of these ops.
func term(l ...api.Op) []api.Op { return l }

// from Low to High, beginning at Low.
func from(name string, low, high int) api.Variable {
	return api.Variable{Name: name, Low: low, High: high, Init: low}
}

// by: a variable grows by so many.
func by(place, n int) api.Rule {
	return api.Rule{Guard: term(yes), Sets: []api.Set{{Var: place, Value: term(add, variable(place), num(n))}}}
}

// to a value of the first variable, from wherever it is.
func to(n int) api.Rule {
	return api.Rule{Guard: term(yes), Sets: []api.Set{{Var: 0, Value: term(num(n))}}}
}

// line of so many states: x goes up one by one, and stays at the end. The proposition is that it is there.
func line(many int, formula ...api.Op) api.Task {
	return api.Task{
		Model:   api.Model{Vars: []api.Variable{from("x", 0, many-1)}, Rules: []api.Rule{by(0, 1)}},
		Props:   [][]api.Op{term(eq, variable(0), num(many-1))},
		Formula: formula,
	}
}

// fan: from each state x may go to each from 1 up to so many.
func fan(many int, formula ...api.Op) api.Task {
	t := line(many+1, formula...)
	t.Model.Rules = nil
	for n := range many {
		t.Model.Rules = append(t.Model.Rules, to(n+1))
	}
	return t
}

// grid: x and y go up and down, each from 0 to so many less 1.
func grid(x, y int, formula ...api.Op) api.Task {
	return api.Task{
		Model: api.Model{
			Vars:  []api.Variable{from("x", 0, x-1), from("y", 0, y-1)},
			Rules: []api.Rule{by(0, 1), by(0, -1), by(1, 1), by(1, -1)},
		},
		Props:   [][]api.Op{term(eq, variable(0), variable(1))},
		Formula: formula,
	}
}

// nexts: a formula that never holds, about which there are claims of so many ops: runs begin with each of these.
func nexts(many int) []api.Op {
	l := term(no)
	for range many {
		l = slices.Concat(term(and), l, term(next, yes))
	}
	return l
}

// runs: just this is the outcome.
func runs(t *testing.T, task api.Task, l []api.Move, want api.Outcome) {
	t.Helper()
	if o, e := search.Run(task, l); o != want || e != api.OK {
		t.Errorf("Run(%v, %v): %+v, %v, want %+v", task, l, o, e, want)
	}
}

// refused with this error.
func refused(t *testing.T, task api.Task, l []api.Move, want api.Errno) {
	t.Helper()
	if o, e := search.Run(task, l); o != (api.Outcome{}) || e != want {
		t.Errorf("Run(%v, %d moves): %+v, %v, want %v", task, len(l), o, e, want)
	}
}

// second search: by the document's words, with all that it knows, and a tape of its own.
type second struct {
	task    api.Task
	up      bool
	known   []api.Spot
	through int
	data    []byte
	synced  int
	times   map[api.Spot]int
	again   int
}

// secondSum: as P11.2 has it.
func secondSum(l []byte) uint32 {
	sum := uint64(1)
	for _, b := range l {
		sum = (257*sum + uint64(b)) % 2147483629
	}
	return uint32(sum)
}

// secondRecords: those that are whole, and their bytes.
func secondRecords(data []byte) (records [][]int, read int) {
	for {
		rest := data[read:]
		if len(rest) < 8 {
			return records, read
		}
		many := int(binary.BigEndian.Uint32(rest))
		if len(rest) < 8+4*many || binary.BigEndian.Uint32(rest[4+4*many:]) != secondSum(rest[:4+4*many]) {
			return records, read
		}
		var numbers []int
		for i := range many {
			numbers = append(numbers, int(binary.BigEndian.Uint32(rest[4+4*i:])))
		}
		records, read = append(records, numbers), read+8+4*many
	}
}

// recall what the tape tells, and no more.
func (s *second) recall() {
	s.known, _ = product.Begin(s.task)
	records, _ := secondRecords(s.data)
	s.through = len(records)
	for _, numbers := range records {
		for _, n := range numbers[1:] {
			s.known = append(s.known, api.Spot{State: n / 64, Claim: n % 64})
		}
	}
}

// goThrough the first spot that it has not gone through; is there one?
func (s *second) goThrough() bool {
	if s.through == len(s.known) {
		return false
	}
	spot := s.known[s.through]
	behind, _ := product.Behind(s.task, spot)
	known, numbers := s.known, []int{s.through}
	for _, b := range behind {
		if !slices.Contains(known, b) {
			known, numbers = append(known, b), append(numbers, 64*b.State+b.Claim)
		}
	}
	record := binary.BigEndian.AppendUint32(nil, uint32(len(numbers)))
	for _, n := range numbers {
		record = binary.BigEndian.AppendUint32(record, uint32(n))
	}
	s.data = append(s.data, binary.BigEndian.AppendUint32(record, secondSum(record))...)
	s.known, s.through = known, s.through+1
	if s.times[spot]++; s.times[spot] > 1 {
		s.again++
	}
	return true
}

// secondRun: by the document's words.
func secondRun(task api.Task, l []api.Move) api.Outcome {
	s := second{task: task, up: true, times: map[api.Spot]int{}}
	s.recall()
	for _, m := range l {
		switch {
		case m.Kind == api.Work && s.up:
			for i := 0; i < m.Many && s.goThrough(); i++ {
			}
		case m.Kind == api.Save && s.up:
			s.synced = len(s.data)
		case m.Kind == api.Crash && s.up:
			_, whole := secondRecords(s.data[:min(len(s.data), s.synced+m.Many)])
			s.data, s.synced, s.up = s.data[:whole], whole, false
		case m.Kind == api.Start && !s.up:
			s.up = true
			s.recall()
		}
	}
	if !s.up {
		s.recall()
	}
	safe, _ := secondRecords(s.data[:s.synced])
	o := api.Outcome{Up: s.up, Found: len(s.known), Through: s.through, Safe: len(safe), Again: s.again, Done: s.up && s.through == len(s.known)}
	if o.Done {
		v, _ := verdict.Check(task)
		o.Holds = v.Holds
	}
	return o
}

// asRead: as the second reading has it.
func asRead(t *testing.T, task api.Task, l []api.Move) {
	t.Helper()
	runs(t, task, l, secondRun(task, l))
}

// wrongMoves, with what Check says of them.
func wrongMoves() map[api.Errno][][]api.Move {
	wrong := map[api.Errno][][]api.Move{
		api.ErrSize: {
			make([]api.Move, api.MaxMoves+1),
			slices.Repeat(moves(save), api.MaxMoves+1),
			slices.Repeat(moves(work(-1)), api.MaxMoves+1),
			slices.Repeat(moves(save), 3*api.MaxMoves),
		},
		api.ErrKind: {
			moves(api.Move{}), moves(api.Move{Kind: 5}),
			moves(save, api.Move{}), moves(save, start, api.Move{Kind: 5}, save),
			moves(api.Move{Kind: 5, Many: -1}), moves(api.Move{Kind: 5}, work(-1)), // whatever comes later
			append(slices.Repeat(moves(save), api.MaxMoves-1), api.Move{Kind: 5}),
		},
		api.ErrRange: {
			moves(work(-1)), moves(work(1), save, crash(-1), start),
			moves(work(-1), api.Move{Kind: 5}),
			append(slices.Repeat(moves(save), api.MaxMoves-1), work(-1)),
		},
	}
	for _, kind := range []int{math.MinInt, -1 << 32, -1, 6, 7, 1<<32 + 1, math.MaxInt} {
		for _, many := range []int{-1, 0, 1, math.MaxInt} {
			wrong[api.ErrKind] = append(wrong[api.ErrKind], moves(api.Move{Kind: kind, Many: many}))
		}
	}
	for _, many := range []int{math.MinInt, -1 << 32, -2, -1, api.MaxNumber + 1, 1 << 32, math.MaxInt} {
		for _, kind := range []int{api.Work, api.Save, api.Crash, api.Start} { // whatever its kind
			wrong[api.ErrRange] = append(wrong[api.ErrRange], moves(api.Move{Kind: kind, Many: many}), moves(save, api.Move{Kind: kind, Many: many}))
		}
	}
	return wrong
}

// P13.1
func TestMovesThatMayNotBe(t *testing.T) {
	for want, lists := range wrongMoves() {
		for _, l := range lists {
			if e := search.Check(l); e != want {
				t.Errorf("Check(%d moves, the first one %v, the last one %v): %v, want %v", len(l), l[0], l[len(l)-1], e, want)
			}
			refused(t, line(2, no), l, want)
		}
	}
}

// P13.1
func TestMovesThatMayBe(t *testing.T) {
	lists := [][]api.Move{nil, {}, slices.Repeat(moves(work(1)), api.MaxMoves), slices.Repeat(moves(all, save, crash(7), start), api.MaxMoves/4)}
	for _, kind := range []int{api.Work, api.Save, api.Crash, api.Start} {
		for _, many := range []int{0, 1, 2, api.MaxNumber - 1, api.MaxNumber} {
			lists = append(lists, moves(api.Move{Kind: kind, Many: many}))
		}
	}
	for _, l := range lists {
		if e := search.Check(l); e != api.OK {
			t.Errorf("Check(%d moves): %v", len(l), e)
		}
		asRead(t, line(3, no), l)
	}
}

// P13.4: what Explore refuses comes ahead of what Check refuses.
func TestTasksThatAreNotRight(t *testing.T) {
	lists := [][]api.Move{nil, moves(all)}
	for _, l := range wrongMoves() {
		lists = append(lists, l[0])
	}
	tasks := map[api.Errno][]api.Task{
		api.ErrShort: {{}, line(2, until, yes), {Model: api.Model{Rules: []api.Rule{{}}}, Formula: term(yes)}, {Props: [][]api.Op{nil}, Formula: term(yes)}},
		api.ErrForm:  {line(2, yes, yes)},
		api.ErrName:  {{Model: api.Model{Vars: []api.Variable{from("no", 0, 1)}}, Formula: term(yes)}},
		api.ErrTwice: {{Model: api.Model{Vars: []api.Variable{from("x", 0, 1), from("x", 0, 1)}}, Formula: term(no)}},
		api.ErrKind:  {line(2, add, num(1), num(1))},
		api.ErrRange: {line(2, prop(1)), {Model: api.Model{Vars: []api.Variable{from("x", 1, 0)}}, Formula: term(yes)}},
		api.ErrType:  {{Props: [][]api.Op{term(num(1))}, Formula: term(yes)}},
		api.ErrSize:  {line(2, append(slices.Repeat(term(next), api.MaxTempo+1), yes)...), line(65, no)},
		api.ErrFull:  {grid(27, 24, nexts(5)...)}, // 32 claims with each of 648 states
	}
	for want, l := range tasks {
		for _, task := range l {
			for _, m := range lists {
				refused(t, task, m, want)
			}
		}
	}
}

// up: an outcome of a search that is not done.
func up(found, through, safe, again int) api.Outcome {
	return api.Outcome{Up: true, Found: found, Through: through, Safe: safe, Again: again}
}

// done: an outcome of one that is.
func done(found, safe, again int, holds bool) api.Outcome {
	return api.Outcome{Up: true, Found: found, Through: found, Safe: safe, Again: again, Done: true, Holds: holds}
}

// down: an outcome of one that is down: all that its tape tells is safe.
func down(found, through, again int) api.Outcome {
	return api.Outcome{Found: found, Through: through, Safe: through, Again: again}
}

// P13.2 to P13.4, written out: a line of four spots, whose records have 16, 16, 16 and 12 bytes.
func TestLine(t *testing.T) {
	task := line(4, no)
	for _, c := range []struct {
		moves []api.Move
		want  api.Outcome
	}{
		{nil, up(1, 0, 0, 0)},
		// Work
		{moves(work(0)), up(1, 0, 0, 0)},
		{moves(work(1)), up(2, 1, 0, 0)},
		{moves(work(2)), up(3, 2, 0, 0)},
		{moves(work(3)), up(4, 3, 0, 0)},
		{moves(work(4)), done(4, 0, 0, false)},
		{moves(work(5)), done(4, 0, 0, false)},
		{moves(all), done(4, 0, 0, false)},
		{moves(work(1), work(0), work(2)), up(4, 3, 0, 0)},
		{moves(work(3), work(3), work(3)), done(4, 0, 0, false)},
		// Save, whatever its Many
		{moves(save), up(1, 0, 0, 0)},
		{moves(work(2), save), up(3, 2, 2, 0)},
		{moves(save, work(2)), up(3, 2, 0, 0)},
		{moves(work(1), save, work(2)), up(4, 3, 1, 0)},
		{moves(work(1), api.Move{Kind: api.Save, Many: api.MaxNumber}, work(9)), done(4, 1, 0, false)},
		{moves(all, save, save), done(4, 4, 0, false)},
		// Start of one that is up
		{moves(start), up(1, 0, 0, 0)},
		{moves(work(2), start), up(3, 2, 0, 0)},
		{moves(work(1), save, work(2), start, start), up(4, 3, 1, 0)},
		{moves(all, start), done(4, 0, 0, false)},
		// Crash
		{moves(crash(0)), down(1, 0, 0)},
		{moves(crash(api.MaxNumber)), down(1, 0, 0)},
		{moves(work(3), crash(0)), down(1, 0, 0)},
		{moves(work(3), crash(15)), down(1, 0, 0)},
		{moves(work(3), crash(16)), down(2, 1, 0)},
		{moves(work(3), crash(17)), down(2, 1, 0)},
		{moves(work(3), crash(47)), down(3, 2, 0)},
		{moves(work(3), crash(48)), down(4, 3, 0)},
		{moves(all, crash(59)), down(4, 3, 0)},
		{moves(all, crash(60)), down(4, 4, 0)},
		{moves(all, crash(api.MaxNumber)), down(4, 4, 0)},
		{moves(all, save, crash(0)), down(4, 4, 0)},
		{moves(work(1), save, work(2), crash(0)), down(2, 1, 0)},
		{moves(work(1), save, work(2), crash(15)), down(2, 1, 0)},
		{moves(work(1), save, work(2), crash(16)), down(3, 2, 0)},
		{moves(work(2), save, all, crash(16)), down(4, 3, 0)},
		// While it is down
		{moves(work(3), crash(40), crash(0)), down(3, 2, 0)},
		{moves(crash(0), all), down(1, 0, 0)},
		{moves(work(3), crash(20), all, save, crash(0)), down(2, 1, 0)},
		{moves(work(2), crash(0), save, work(1), save), down(1, 0, 0)},
		// Start of one that is down, whatever its Many
		{moves(crash(0), start), up(1, 0, 0, 0)},
		{moves(work(3), crash(40), start), up(3, 2, 2, 0)},
		{moves(work(3), crash(40), api.Move{Kind: api.Start, Many: 7}), up(3, 2, 2, 0)},
		{moves(all, crash(60), start), done(4, 4, 0, false)},
		{moves(all, crash(59), start), up(4, 3, 3, 0)},
		// what was left is safe, and what was done while it was down is not made up for
		{moves(work(3), crash(40), start, crash(0)), down(3, 2, 0)},
		{moves(work(3), crash(40), work(1), start, start), up(3, 2, 2, 0)},
		// no torn bytes lie ahead of what is written then
		{moves(work(1), crash(0), start, work(1), crash(16)), down(2, 1, 1)},
		{moves(work(2), crash(31), start, work(1), crash(16)), down(3, 2, 1)},
		{moves(work(2), crash(31), start, work(1), crash(15)), down(2, 1, 1)},
		{moves(work(2), crash(31), start, save, work(1), save), up(3, 2, 2, 1)},
		// Again
		{moves(work(1), crash(0), start), up(1, 0, 0, 0)},
		{moves(work(1), crash(0), start, work(1)), up(2, 1, 0, 1)},
		{moves(work(1), crash(0), start, all), done(4, 0, 1, false)},
		{moves(work(3), crash(20), start, work(1)), up(3, 2, 1, 1)},
		{moves(work(3), crash(20), start, all), done(4, 1, 2, false)},
		{moves(all, crash(0), start, all), done(4, 0, 4, false)},
		{moves(all, crash(0), start, all, crash(0), start, all), done(4, 0, 8, false)},
		{moves(all, crash(0), start, work(1), crash(0), start, all), done(4, 0, 5, false)},
		{moves(work(1), crash(0), start, all, crash(0), start, work(2), crash(0)), down(1, 0, 3)},
		{moves(work(2), save, work(1), crash(0), start, all), done(4, 2, 1, false)},
		{moves(work(2), save, crash(0), start, all), done(4, 2, 0, false)},
	} {
		runs(t, task, c.moves, c.want)
		if o := secondRun(task, c.moves); o != c.want {
			t.Errorf("the second reading of %v: %+v, want %+v", c.moves, o, c.want)
		}
	}
}

// P13.3: each keep, behind each work, with each of the records saved.
func TestEachKeep(t *testing.T) {
	for _, task := range []api.Task{line(4, no), fan(3, no), fan(2, nexts(2)...)} {
		for saved := range 4 {
			for more := range 4 {
				for keep := range 70 {
					asRead(t, task, moves(work(saved), save, work(more), crash(keep)))
					asRead(t, task, moves(work(saved), save, work(more), crash(keep), start, work(1), crash(keep), start, work(3)))
				}
			}
		}
	}
}

// P13.2: a record has its spot's place, and each new spot behind it: so many bytes.
func TestHowLongRecordsAre(t *testing.T) {
	for many := 1; many <= api.MaxRules; many++ {
		first := 12 + 4*many // then there is nothing new any more
		for after := range many + 1 {
			size := first + 12*after
			runs(t, fan(many, no), moves(work(1+after), crash(size)), down(1+many, 1+after, 0))
			runs(t, fan(many, no), moves(all, crash(size)), down(1+many, 1+after, 0))
			if after > 0 {
				runs(t, fan(many, no), moves(all, crash(size-1)), down(1+many, after, 0))
			} else {
				runs(t, fan(many, no), moves(all, crash(size-1)), down(1, 0, 0))
			}
		}
	}
	// The most that can be new behind one spot: twelve states with each of 64 claims.
	task := fan(api.MaxRules, nexts(api.MaxTempo)...)
	const begin, news = 64, 12 * 64
	size := 63*12 + 12 + 4*news // the last claim of the first state alone leads on
	runs(t, task, nil, up(begin, 0, 0, 0))
	runs(t, task, moves(work(63)), up(begin, 63, 0, 0))
	runs(t, task, moves(work(64)), up(begin+news, 64, 0, 0))
	runs(t, task, moves(work(64), crash(size-1)), down(begin, 63, 0))
	runs(t, task, moves(work(64), crash(size)), down(begin+news, 64, 0))
	runs(t, task, moves(all, crash(size-1), start, all), done(begin+news, 63, 1+news, false))
}

// P13.2, P13.4: a search knows where runs begin, however little its tape tells.
func TestWhereItBegins(t *testing.T) {
	for many := range api.MaxTempo + 1 {
		task := line(1, nexts(many)...)
		begin := 1 << many
		runs(t, task, nil, up(begin, 0, 0, 0))
		runs(t, task, moves(crash(0)), down(begin, 0, 0))
		runs(t, task, moves(all, crash(0), start), up(begin, 0, 0, 0))
		runs(t, task, moves(all, save), done(begin, begin, 0, false))
	}
	// There is no run at all that does not keep it: nothing is to be gone through.
	for _, l := range [][]api.Move{nil, moves(all), moves(save), moves(start), moves(crash(5), start), moves(all, save, crash(0), work(1), start)} {
		runs(t, line(4, yes), l, done(0, 0, 0, true))
		runs(t, api.Task{Formula: term(yes)}, l, done(0, 0, 0, true))
	}
	runs(t, line(4, yes), moves(crash(0)), down(0, 0, 0))
}

// P13.4: whether each run keeps the formula is told by one that is done alone.
func TestHolds(t *testing.T) {
	ever := line(4, finally, prop(0))
	runs(t, ever, moves(work(3)), up(4, 3, 0, 0))
	runs(t, ever, moves(work(4)), done(4, 0, 0, true))
	runs(t, ever, moves(work(4), crash(60)), down(4, 4, 0))
	runs(t, ever, moves(work(4), crash(60), start), done(4, 4, 0, true))
	runs(t, ever, moves(work(4), crash(59), start), up(4, 3, 3, 0))
	runs(t, ever, moves(work(4), crash(59), start, work(1)), done(4, 3, 1, true))
	never := line(4, globally, not, prop(0))
	runs(t, never, moves(all, crash(0), start, all), secondRun(never, moves(all, crash(0), start, all)))
	if o, e := search.Run(never, moves(all)); !o.Done || o.Holds || e != api.OK {
		t.Errorf("Run(%v): %+v, %v", never, o, e)
	}
	// the document's example of the whole
	stays := line(3, finally, prop(0))
	stays.Model.Rules = append(stays.Model.Rules, api.Rule{Guard: term(yes)})
	runs(t, stays, moves(all), done(3, 0, 0, false))
	runs(t, line(3, finally, prop(0)), moves(all), done(3, 0, 0, true))
}

// P13.2 to P13.4: all that may be done by a few moves.
func TestAllMoves(t *testing.T) {
	kinds := moves(work(1), work(3), save, crash(0), crash(20), crash(40), start)
	for _, task := range []api.Task{line(4, no), line(3, finally, prop(0)), fan(2, nexts(1)...)} {
		for code := range 7 * 7 * 7 * 7 * 7 {
			var l []api.Move
			for rest := code; rest > 0; rest /= len(kinds) {
				l = append(l, kinds[rest%len(kinds)])
			}
			asRead(t, task, l)
			if t.Failed() {
				return
			}
		}
	}
}

// die: numbers that look drawn, the same each time.
type die uint64

func (d *die) below(most int) int {
	*d = *d*6364136223846793005 + 1442695040888963407
	return int(uint64(*d>>33) % uint64(most))
}

// number that is a term over two variables.
func (d *die) number(deep int) []api.Op {
	if deep == 0 || d.below(3) == 0 {
		return [][]api.Op{term(variable(0)), term(variable(1)), term(num(d.below(7) - 3))}[d.below(3)]
	}
	return slices.Concat(term([]api.Op{add, sub, mul}[d.below(3)]), d.number(deep-1), d.number(deep-1))
}

// truth over two variables.
func (d *die) truth(deep int) []api.Op {
	switch k := d.below(6); {
	case k == 0:
		return term(yes)
	case deep == 0 || k < 4:
		return slices.Concat(term([]api.Op{eq, lt}[d.below(2)]), d.number(1), d.number(1))
	case k == 4:
		return slices.Concat(term(not), d.truth(deep-1))
	default:
		return slices.Concat(term([]api.Op{and, or}[d.below(2)]), d.truth(deep-1), d.truth(deep-1))
	}
}

// formula over two propositions.
func (d *die) formula(deep int) []api.Op {
	if deep == 0 {
		return term(prop(d.below(2)))
	}
	switch k := d.below(8); {
	case k < 1:
		return slices.Concat(term(not), d.formula(deep-1))
	case k < 5:
		return slices.Concat(term([]api.Op{next, finally, globally, globally}[d.below(4)]), d.formula(deep-1))
	default:
		return slices.Concat(term([]api.Op{and, or, until, release}[d.below(4)]), d.formula(deep-1), d.formula(d.below(2)))
	}
}

// task that looks drawn, and is right.
func (d *die) task() api.Task {
	for {
		t := api.Task{Model: api.Model{Vars: []api.Variable{from("x", 0, 1+d.below(3)), from("y", -1, d.below(3))}}, Props: [][]api.Op{d.truth(1), d.truth(1)}, Formula: d.formula(1 + d.below(3))}
		for range 1 + d.below(4) {
			r := by(d.below(2), 1-2*d.below(2))
			if d.below(3) == 0 {
				r = api.Rule{Guard: d.truth(2), Sets: []api.Set{{Var: d.below(2), Value: d.number(1)}}}
			}
			t.Model.Rules = append(t.Model.Rules, r)
		}
		if product.Check(t) == api.OK {
			return t
		}
	}
}

// moves that look drawn.
func (d *die) moves(most, many int) []api.Move {
	var l []api.Move
	for range d.below(most + 1) {
		switch k := d.below(8); {
		case k < 3:
			l = append(l, work(d.below(many)))
		case k < 4:
			l = append(l, api.Move{Kind: api.Save, Many: d.below(many)})
		case k < 6:
			l = append(l, crash(d.below(6*many)))
		default:
			l = append(l, api.Move{Kind: api.Start, Many: d.below(many)})
		}
	}
	return l
}

// P13.2 to P13.4: drawn tasks and moves.
func TestDrawn(t *testing.T) {
	d := die(13)
	great, again, ends, keeps := 0, 0, 0, 0
	for range 1500 {
		task := d.task()
		for range 10 {
			l := d.moves(14, 12)
			asRead(t, task, l)
			o, _ := search.Run(task, l)
			if o.Found > 20 {
				great++
			}
			if o.Again > 0 {
				again++
			}
			if o.Done && o.Found > 0 {
				ends++
			}
			if o.Holds && o.Found > 0 {
				keeps++
			}
		}
		if t.Failed() {
			t.Fatal("a drawn search is not as it should be")
		}
	}
	if great < 100 || again < 500 || ends < 300 || keeps < 30 {
		t.Errorf("too few were drawn: %d great ones, %d that went through a spot again, %d that were done, %d of which each run keeps the formula", great, again, ends, keeps)
	}
}

// What comes of it: however often it crashes, when it is done it tells the truth.
func TestTheTruthAtLast(t *testing.T) {
	d := die(131)
	holds := 0
	for range 1500 {
		task := d.task()
		o, e := search.Run(task, append(d.moves(20, 9), start, all))
		v, f := verdict.Check(task)
		g, _ := product.Explore(task)
		if !o.Up || !o.Done || o.Found != len(g.Spots) || o.Through != len(g.Spots) || o.Holds != v.Holds || e != api.OK || f != api.OK {
			t.Fatalf("Run(%v, ..): %+v, %v, want what holds of %d spots: %v", task, o, e, len(g.Spots), v.Holds)
		}
		if o.Holds {
			holds++
		}
	}
	if holds < 100 || holds > 1400 {
		t.Errorf("%d of 1500 drawn tasks hold", holds)
	}
}

// What comes of it: what was saved is not gone through again.
func TestWhatWasSavedStays(t *testing.T) {
	for saved := range 30 {
		for more := range 30 {
			through := min(30, saved+more)
			o, e := search.Run(line(30, no), moves(work(saved), save, work(more), crash(0), start, all))
			if !o.Done || o.Safe != saved || o.Again != through-saved || e != api.OK {
				t.Errorf("%d were saved, %d were gone through: %+v, %v", saved, through, o, e)
			}
		}
	}
}

// whole list, copied up to its cap.
func whole[T any](l []T) []T { return append([]T(nil), l[:cap(l)]...) }

// cloneOf a task, with the spare room of its lists.
func cloneOf(t api.Task) api.Task {
	c := api.Task{Model: api.Model{Vars: whole(t.Model.Vars), Rules: whole(t.Model.Rules)}, Props: whole(t.Props), Formula: whole(t.Formula)}
	for i, r := range c.Model.Rules {
		c.Model.Rules[i] = api.Rule{Guard: whole(r.Guard), Sets: whole(r.Sets)}
		for j, s := range c.Model.Rules[i].Sets {
			c.Model.Rules[i].Sets[j].Value = whole(s.Value)
		}
	}
	for i, l := range c.Props {
		c.Props[i] = whole(l)
	}
	return c
}

// Lists that are handed in stay as they are, their spare room too; and what comes of them is the same again.
func TestListsHandedInStay(t *testing.T) {
	d := die(132)
	for range 500 {
		task := d.task()
		task.Formula = append(slices.Clone(task.Formula), num(7), num(8))[:len(task.Formula)]
		task.Props = append(slices.Clone(task.Props), term(num(9)))[:len(task.Props)]
		l := d.moves(10, 12)
		l = append(slices.Clone(l), work(-7), crash(-7))[:len(l)]
		if d.below(5) == 0 {
			l = append(l, api.Move{Kind: 5}) // they are refused
		}
		before, ahead := cloneOf(task), whole(l)
		e := search.Check(l)
		o, f := search.Run(task, l)
		other, h := search.Run(task, slices.Clone(l))
		if !reflect.DeepEqual(cloneOf(task), before) || !slices.Equal(whole(l), ahead) {
			t.Fatalf("%v and %v were handed in, %v and %v are left", before, ahead, task, whole(l))
		}
		if e != search.Check(slices.Clone(l)) || o != other || f != h || e != f {
			t.Fatalf("Run(%v, %v): %+v, %v, and then %+v, %v", task, l, o, f, other, h)
		}
	}
}

// P13.2 to P13.4: as many spots as a graph may have, 32 claims with each of 625 states.
func TestGreatest(t *testing.T) {
	task := grid(25, 25, nexts(5)...)
	const most, begin = api.MaxGraph, 32
	const size = 12*most + 4*(most-begin)
	runs(t, task, nil, up(begin, 0, 0, 0))
	runs(t, task, moves(work(most-1)), up(most, most-1, 0, 0))
	runs(t, task, moves(all), done(most, 0, 0, false))
	runs(t, task, moves(all, crash(size)), down(most, most, 0))
	runs(t, task, moves(all, crash(size-1)), down(most, most-1, 0))
	runs(t, task, moves(all, crash(size-12)), down(most, most-1, 0))
	runs(t, task, moves(all, crash(size-13)), down(most, most-2, 0))
	runs(t, task, moves(work(most/2), save, all, crash(0), start, all), done(most, most/2, most/2, false))
}

// As many moves as there may be, at a great graph: all ends in good time.
func TestMostMoves(t *testing.T) {
	task := grid(64, 24, globally, finally, prop(0)) // three claims that are met with each of 1536 states
	g, e := product.Explore(task)
	many := len(g.Spots)
	if many < 4000 || e != api.OK {
		t.Fatalf("Explore: %d spots, %v", many, e)
	}
	runs(t, task, slices.Repeat(moves(work(1)), api.MaxMoves), done(many, 0, 0, false))
	const rounds = api.MaxMoves / 3
	lost := append(slices.Repeat(moves(all, crash(0), start), rounds), all)
	runs(t, task, lost, done(many, 0, rounds*many, false))
	saved := append(moves(all), slices.Repeat(moves(save, crash(0), start), rounds)...)
	runs(t, task, saved, done(many, many, 0, false))
}
