package search

import (
	"slices"
	"testing"

	"foretell/api"
	"foretell/product"
	"foretell/tape"
)

// tick task: x goes up to 2 or back to 0, and the formula says that it is 2 at last, and then again.
func tick() api.Task {
	yes, x := api.Op{Kind: api.Yes}, api.Op{Kind: api.Var}
	up := []api.Op{{Kind: api.Add}, x, {Kind: api.Num, Value: 1}}
	return api.Task{
		Model: api.Model{
			Vars:  []api.Variable{{Name: "x", High: 2}},
			Rules: []api.Rule{{Guard: []api.Op{yes}, Sets: []api.Set{{Value: up}}}, {Guard: []api.Op{yes}, Sets: []api.Set{{Value: []api.Op{{Kind: api.Num}}}}}},
		},
		Props:   [][]api.Op{{{Kind: api.Eq}, x, {Kind: api.Num, Value: 2}}},
		Formula: []api.Op{{Kind: api.Globally}, {Kind: api.Finally}, {Kind: api.Prop}},
	}
}

// recordsOf a task, by the document's words: for each spot its place, and 64 times the State, and the Claim, of each new one behind it.
func recordsOf(t *testing.T, task api.Task) [][]int {
	t.Helper()
	known, e := product.Begin(task)
	if e != api.OK {
		t.Fatalf("Begin: %v", e)
	}
	var records [][]int
	for place := 0; place < len(known); place++ {
		record := []int{place}
		behind, e := product.Behind(task, known[place])
		if e != api.OK {
			t.Fatalf("Behind: %v", e)
		}
		for _, s := range behind {
			if !slices.Contains(known, s) {
				known, record = append(known, s), append(record, 64*s.State+s.Claim)
			}
		}
		records = append(records, record)
	}
	return records
}

// onTape: just these records are there, and nothing behind them.
func onTape(t *testing.T, s *search, want [][]int) {
	t.Helper()
	records, read, e := tape.Read(s.tape)
	if !slices.EqualFunc(records, want, slices.Equal) || read != len(s.tape.Data) || e != api.OK {
		t.Errorf("%v stand on the tape, in %d of its %d bytes, %v, want %v", records, read, len(s.tape.Data), e, want)
	}
}

// P13.2: what stands on the tape, also behind crashes.
func TestRecordsOnTheTape(t *testing.T) {
	g, e := product.Explore(tick())
	if e != api.OK {
		t.Fatalf("Explore: %v", e)
	}
	want := recordsOf(t, tick())
	if len(want) < 6 || len(want) != len(g.Spots) || !slices.ContainsFunc(want, func(l []int) bool { return len(l) > 2 }) {
		t.Fatalf("the records are %v", want)
	}
	for first := range len(want) + 1 {
		for keep := range 100 {
			s, e := searchOf(g)
			if e != api.OK {
				t.Fatalf("searchOf: %v", e)
			}
			for _, m := range []api.Move{{Kind: api.Work, Many: first}, {Kind: api.Crash, Many: keep}} {
				if e := s.do(m); e != api.OK {
					t.Errorf("%v: %v", m, e)
				}
				onTape(t, s, want[:s.through])
			}
			if s.through > first || s.through != first && keep >= 16*len(want)+16 {
				t.Errorf("%d of %d records are left of %d bytes", s.through, first, keep)
			}
			for _, m := range []api.Move{{Kind: api.Start}, {Kind: api.Work, Many: 1}, {Kind: api.Save}, {Kind: api.Work, Many: len(want)}} {
				if e := s.do(m); e != api.OK {
					t.Errorf("%v: %v", m, e)
				}
				onTape(t, s, want[:s.through])
			}
			onTape(t, s, want)
		}
	}
}

// P13.2: written out.
func TestRecordsWrittenOut(t *testing.T) {
	task := tick()
	task.Formula = task.Formula[1:] // F P0
	g, _ := product.Explore(task)
	s, _ := searchOf(g)
	s.do(api.Move{Kind: api.Work, Many: 9})
	onTape(t, s, [][]int{{0, 64}, {1, 128}, {2}})
}

// P13.3: no more is gone through than the tape has room for. The graph of no task fills a tape, so it is filled here.
func TestFullTape(t *testing.T) {
	g, _ := product.Explore(tick())
	fresh, _ := searchOf(g)
	size := 0
	for many, f := range fresh.finds {
		for spare := range len(f.record) {
			s, _ := searchOf(g)
			s.tape = api.Tape{Data: make([]byte, api.MaxBytes-size-spare), Synced: 1}
			if e := s.do(api.Move{Kind: api.Work, Many: api.MaxNumber}); e != api.OK || s.through != many || len(s.tape.Data) != api.MaxBytes-spare {
				t.Fatalf("room for %d bytes: %d were gone through, %v, want %d", size+spare, s.through, e, many)
			}
			if e := s.do(api.Move{Kind: api.Work, Many: 1}); e != api.OK || s.through != many {
				t.Fatalf("room for %d bytes, and more work: %d were gone through, %v, want %d", size+spare, s.through, e, many)
			}
		}
		size += len(f.record)
	}
}
