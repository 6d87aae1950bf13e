package store_test

import (
	"math"
	"reflect"
	"slices"
	"sort"
	"testing"

	"foretell/api"
	"foretell/store"
)

// list of these keys.
func list(l ...int) []int { return l }

// of these lists a store: what lies loose, and then its runs.
func of(loose []int, runs ...[]int) api.Store { return api.Store{Loose: loose, Runs: runs} }

// from a key on so many, each that much above the one ahead of it.
func from(first, many, step int) []int {
	l := make([]int, many)
	for i := range l {
		l[i] = first + i*step
	}
	return l
}

// single: runs of one key each, from a key on so many.
func single(first, many int) [][]int {
	l := make([][]int, many)
	for i := range l {
		l[i] = list(first + i)
	}
	return l
}

// shown: a store as it is told where something is wrong; of a great one its sizes alone.
func shown(s api.Store) any {
	if len(s.Loose)+len(s.Runs) > 30 || slices.ContainsFunc(s.Runs, func(l []int) bool { return len(l) > 100 }) {
		return struct{ loose, runs int }{len(s.Loose), len(s.Runs)}
	}
	return s
}

// same stores?
func same(a, b api.Store) bool {
	return slices.Equal(a.Loose, b.Loose) && slices.EqualFunc(a.Runs, b.Runs, slices.Equal)
}

// isZero: a store without anything.
func isZero(s api.Store) bool { return len(s.Loose) == 0 && len(s.Runs) == 0 }

// numbers to ask with: wrong ones and right ones.
func numbers() []int {
	return list(math.MinInt, -1<<31, -2, -1, 0, 1, 2, 7, api.MaxNumber-1, api.MaxNumber, api.MaxNumber+1, 1<<32, math.MaxInt)
}

// secondKeys: all of them, as they stand.
func secondKeys(s api.Store) []int {
	l := slices.Clone(s.Loose)
	for _, run := range s.Runs {
		l = append(l, run...)
	}
	return l
}

// secondCheck: by the document's words, one after the other.
func secondCheck(s api.Store) api.Errno {
	if len(s.Loose) >= 8 {
		return api.ErrState
	}
	for _, run := range s.Runs {
		if len(run) < 1 || !sort.IntsAreSorted(run) {
			return api.ErrState
		}
	}
	met := map[int]bool{}
	for _, key := range secondKeys(s) {
		if key < 0 || key > 2147483647 || met[key] {
			return api.ErrState
		}
		met[key] = true
	}
	if len(met) > 20000 {
		return api.ErrState
	}
	return api.OK
}

// secondHas: by the document's words.
func secondHas(s api.Store, n int) (bool, api.Errno) {
	if e := secondCheck(s); e != api.OK {
		return false, e
	}
	if n < 0 || n > 2147483647 {
		return false, api.ErrRange
	}
	return slices.Contains(secondKeys(s), n), api.OK
}

// secondAdd: by the document's words, two runs at a time.
func secondAdd(s api.Store, n int) (api.Store, bool, api.Errno) {
	has, e := secondHas(s, n)
	if e != api.OK {
		return api.Store{}, false, e
	}
	if has {
		return s, false, api.OK
	}
	if len(secondKeys(s)) == 20000 {
		return api.Store{}, false, api.ErrFull
	}
	loose, runs := append(slices.Clone(s.Loose), n), slices.Clone(s.Runs)
	if len(loose) < 8 {
		return of(loose, runs...), true, api.OK
	}
	sort.Ints(loose)
	runs = append(runs, loose)
	for len(runs) >= 2 {
		last, ahead := runs[len(runs)-1], runs[len(runs)-2]
		if len(last) < len(ahead) {
			break
		}
		one := append(slices.Clone(ahead), last...)
		sort.Ints(one)
		runs = append(runs[:len(runs)-2:len(runs)-2], one)
	}
	return of(nil, runs...), true, api.OK
}

// secondAll: by the document's words.
func secondAll(s api.Store) ([]int, api.Errno) {
	if e := secondCheck(s); e != api.OK {
		return nil, e
	}
	l := secondKeys(s)
	sort.Ints(l)
	return l, api.OK
}

// asRead: all faces answer as the second reading does.
func asRead(t *testing.T, s api.Store, numbers ...int) {
	t.Helper()
	if e, want := store.Check(s), secondCheck(s); e != want {
		t.Errorf("Check(%v): %v, want %v", shown(s), e, want)
	}
	l, e := store.All(s)
	if want, f := secondAll(s); !slices.Equal(l, want) || e != f {
		t.Errorf("All(%v): %d keys, %v, want %d, %v", shown(s), len(l), e, len(want), f)
	}
	for _, n := range numbers {
		has, e := store.Has(s, n)
		if want, f := secondHas(s, n); has != want || e != f {
			t.Errorf("Has(%v, %d): %v, %v, want %v, %v", shown(s), n, has, e, want, f)
		}
		x, fresh, e := store.Add(s, n)
		if y, want, f := secondAdd(s, n); !same(x, y) || fresh != want || e != f {
			t.Errorf("Add(%v, %d): %v, %v, %v, want %v, %v, %v", shown(s), n, shown(x), fresh, e, shown(y), want, f)
		}
	}
}

// refused by all calls, whatever they are asked.
func refused(t *testing.T, s api.Store) {
	t.Helper()
	if e := store.Check(s); e != api.ErrState {
		t.Errorf("Check(%v): %v", shown(s), e)
	}
	if l, e := store.All(s); len(l) != 0 || e != api.ErrState {
		t.Errorf("All(%v): %d keys, %v", shown(s), len(l), e)
	}
	for _, n := range numbers() {
		if has, e := store.Has(s, n); has || e != api.ErrState {
			t.Errorf("Has(%v, %d): %v, %v", shown(s), n, has, e)
		}
		if x, fresh, e := store.Add(s, n); !isZero(x) || fresh || e != api.ErrState {
			t.Errorf("Add(%v, %d): %v, %v, %v", shown(s), n, shown(x), fresh, e)
		}
	}
}

// adds: the store behind it is this one.
func adds(t *testing.T, s api.Store, n int, want api.Store, isNew bool) api.Store {
	t.Helper()
	x, fresh, e := store.Add(s, n)
	if !same(x, want) || fresh != isNew || e != api.OK {
		t.Fatalf("Add(%v, %d): %v, %v, %v, want %v, %v", shown(s), n, shown(x), fresh, e, shown(want), isNew)
	}
	return x
}

// notAdded: for this reason.
func notAdded(t *testing.T, s api.Store, n int, want api.Errno) {
	t.Helper()
	if x, fresh, e := store.Add(s, n); !isZero(x) || fresh || e != want {
		t.Errorf("Add(%v, %d): %v, %v, %v, want %v", shown(s), n, shown(x), fresh, e, want)
	}
}

// P12.1: stores that may not be, ahead of all else.
func TestStoresThatMayNotBe(t *testing.T) {
	for _, s := range []api.Store{
		of(from(0, 8, 1)), of(from(0, 9, 1)), of(from(0, 30000, 1)), of(from(0, 8, 1), from(100, 8, 1)), // too many lie loose
		of(nil, nil), of(nil, list()), of(list(1), nil), of(nil, list(1), nil), of(nil, nil, list(1)), of(nil, list(1), nil, list(2)), // a run without a key
		of(nil, list(2, 1)), of(nil, list(1, 3, 2)), of(nil, list(2, 1, 3)), of(nil, list(9), list(2, 1)), of(nil, list(2, 1), list(9)), of(list(9), list(5, 4, 3)), // one does not rise
		of(nil, list(1, 1)), of(nil, list(0, 0)), of(nil, list(1, 2, 2)), of(nil, list(1, 2, 2, 3)), // two the same in a run
		of(nil, list(1), list(1)), of(nil, list(1, 2, 3), list(0, 3)), of(nil, list(1, 5), list(2, 6), list(3, 5)), of(nil, list(5), list(6), list(5)), // in two runs
		of(list(1, 1)), of(list(0, 0)), of(list(5, 2, 5)), of(list(7, 6, 5, 4, 3, 2, 7)), // loose
		of(list(1), list(1)), of(list(4, 2), list(1), list(2)), of(list(3), list(1, 2, 3)), of(list(0), list(0, 9)), // loose and in a run
		of(list(-1)), of(list(math.MinInt)), of(list(3, -1)), of(list(-1, 3)), of(list(3, -2, 1)), // below 0
		of(nil, list(-1)), of(nil, list(-1, 0, 1)), of(nil, list(math.MinInt, 5)), of(nil, list(5), list(-5, 6)), of(list(1), list(-1)),
		of(list(api.MaxNumber + 1)), of(list(math.MaxInt)), of(list(3, 1<<31)), of(list(1<<32, 3)), // too great
		of(nil, list(api.MaxNumber+1)), of(nil, list(0, api.MaxNumber+1)), of(nil, list(5, math.MaxInt)), of(nil, list(5), list(6, 1<<32+5)), of(list(1), list(1<<31)),
		of(nil, list(math.MinInt, math.MaxInt)),
	} {
		refused(t, s)
	}
}

// P12.1: a great store with one fault in it, at each end and in the middle.
func TestOneFault(t *testing.T) {
	for _, place := range []int{0, 1, 7, 5000, 9998, 9999} {
		for _, wrong := range []int{-1, api.MaxNumber + 1} {
			run := from(100, 10000, 3)
			run[place] = wrong
			refused(t, of(nil, run))
			refused(t, of(list(5), from(50000, 10, 1), run))
		}
		run := from(100, 10000, 3)
		refused(t, of(list(run[place]), run))
		refused(t, of(list(1, 2, 3, run[place]), list(50), run))
		refused(t, of(nil, run, list(run[place])))
		refused(t, of(nil, list(run[place]), run))
		refused(t, of(nil, from(101, 9999, 3), run, from(102, 1, 1), list(run[place])))
		asRead(t, of(list(run[place]+1), run), run[place], run[place]+1, run[place]+2)
		if place > 0 {
			run[place] = run[place-1]
			refused(t, of(nil, run))
			run[place]--
			refused(t, of(nil, run))
		}
	}
}

// P12.1: stores at the edges of what may be. Runs need not grow shorter.
func TestStoresThatMayBe(t *testing.T) {
	for _, s := range []api.Store{
		{}, of(list()), {Runs: [][]int{}},
		of(list(0)), of(list(api.MaxNumber)), of(list(api.MaxNumber, 0)), of(list(7, 6, 5, 4, 3, 2, 1)),
		of(nil, list(0)), of(nil, list(api.MaxNumber)), of(nil, list(0, api.MaxNumber)),
		of(nil, list(0), list(api.MaxNumber)), of(nil, list(5), list(1, 9), list(0, 2, 3)), of(nil, list(1), list(0), list(3), list(2)),
		of(list(5), list(4, 6)), of(list(2, 8, 1), list(0, 9), list(3)), of(from(20, 7, 1), list(0), from(1, 19, 1), list(27)),
	} {
		if e := store.Check(s); e != api.OK {
			t.Errorf("Check(%v): %v", s, e)
		}
		asRead(t, s, numbers()...)
	}
}

// P12.1: MaxKeys keys, and one more.
func TestHowManyKeys(t *testing.T) {
	most := api.MaxKeys
	for _, s := range []api.Store{
		of(nil, from(0, most, 1)),
		of(nil, from(7, most, 100000)),
		of(nil, single(0, most)...),
		of(from(0, 7, 1), from(7, most-7, 1)),
		of(from(0, 7, 1), single(7, most-7)...),
		of(list(1), from(2, most-2, 2), list(0)),
		of(nil, from(0, most/2, 2), from(1, most/2, 2)),
		of(nil, from(0, most-1, 1), list(most-1)),
		of(nil, list(most-1), from(0, most-1, 1)),
	} {
		asRead(t, s, 0, 1, 7, most, -1)
		if e := store.Check(s); e != api.OK {
			t.Errorf("Check(%v): %v", shown(s), e)
		}
		one := [][]int{list(api.MaxNumber)}
		refused(t, of(s.Loose, slices.Concat(s.Runs, one)...))
		refused(t, of(s.Loose, slices.Concat(one, s.Runs)...))
		if len(s.Loose) < 7 {
			refused(t, of(append(slices.Clone(s.Loose), api.MaxNumber), s.Runs...))
		}
		more := slices.Clone(s.Runs)
		more[0] = append(slices.Clone(more[0]), api.MaxNumber)
		refused(t, of(s.Loose, more...))
	}
	refused(t, of(nil, from(0, 100*most, 1)))
	refused(t, of(nil, single(0, 3*most)...))
	refused(t, of(nil, make([][]int, 3*most)...))
	long := from(0, 1<<20, 1)
	refused(t, of(nil, slices.Repeat([][]int{long}, 1000)...))
}

// P12.2: written out.
func TestHas(t *testing.T) {
	s := of(list(9, 2, 40), list(1, 3, 5, 30, 31), list(0, 4, 8, 33), list(7, api.MaxNumber))
	there := list(0, 1, 2, 3, 4, 5, 7, 8, 9, 30, 31, 33, 40, api.MaxNumber)
	for n := range 50 {
		if has, e := store.Has(s, n); has != slices.Contains(there, n) || e != api.OK {
			t.Errorf("Has(%v, %d): %v, %v", s, n, has, e)
		}
	}
	for _, n := range there {
		if has, e := store.Has(s, n); !has || e != api.OK {
			t.Errorf("Has(%v, %d): %v, %v", s, n, has, e)
		}
	}
	for _, n := range list(0, 1, 77, api.MaxNumber-1, api.MaxNumber) {
		if has, e := store.Has(api.Store{}, n); has || e != api.OK {
			t.Errorf("Has({}, %d): %v, %v", n, has, e)
		}
	}
	for _, n := range list(-1, -2, math.MinInt, api.MaxNumber+1, 1<<32, 1<<32+1, math.MaxInt) {
		for _, x := range []api.Store{s, {}, of(nil, from(0, api.MaxKeys, 1))} {
			if has, e := store.Has(x, n); has || e != api.ErrRange {
				t.Errorf("Has(%v, %d): %v, %v", shown(x), n, has, e)
			}
			notAdded(t, x, n, api.ErrRange) // ahead of ErrFull
		}
	}
}

// P12.3: written out.
func TestAdd(t *testing.T) {
	for _, c := range []struct {
		s     api.Store
		n     int
		want  api.Store
		isNew bool
	}{
		{api.Store{}, 5, of(list(5)), true},
		{api.Store{}, 0, of(list(0)), true},
		{api.Store{}, api.MaxNumber, of(list(api.MaxNumber)), true},
		{of(list(5)), 3, of(list(5, 3)), true},
		{of(list(5)), 5, of(list(5)), false},
		{of(list(5, 3, 9)), 4, of(list(5, 3, 9, 4)), true},
		{of(list(5, 3, 9)), 3, of(list(5, 3, 9)), false},
		{of(nil, list(1, 2)), 2, of(nil, list(1, 2)), false},
		{of(nil, list(1, 2)), 0, of(list(0), list(1, 2)), true},
		// What is handed in may have runs that do not grow shorter: they stay, as long as none is made.
		{of(nil, list(1), list(2, 3)), 0, of(list(0), list(1), list(2, 3)), true},
		{of(nil, list(1), list(2, 3)), 2, of(nil, list(1), list(2, 3)), false},
		{of(list(6, 5), list(1), list(2), list(3)), 0, of(list(6, 5, 0), list(1), list(2), list(3)), true},
		// Those that lie loose become a run.
		{of(list(17, 16, 15, 14, 13, 12, 11)), 10, of(nil, from(10, 8, 1)), true},
		{of(list(3, 50, 1, 40, 2, 60, 0)), 45, of(nil, list(0, 1, 2, 3, 40, 45, 50, 60)), true},
		{of(list(3, 50, 1, 40, 2, 60, 0)), 40, of(list(3, 50, 1, 40, 2, 60, 0)), false},
		{of(from(0, 7, 1), from(20, 9, 1)), 7, of(nil, from(20, 9, 1), from(0, 8, 1)), true},
		// And two runs become one, as long as the last one is not shorter.
		{of(from(0, 7, 1), from(20, 8, 1)), 7, of(nil, append(from(0, 8, 1), from(20, 8, 1)...)), true},
		{of(from(0, 7, 2), from(1, 8, 2)), 14, of(nil, from(0, 16, 1)), true},
		{of(from(0, 7, 1), list(20)), 7, of(nil, append(from(0, 8, 1), 20)), true},
		{of(from(0, 7, 1), from(30, 17, 1), from(20, 8, 1)), 7, of(nil, from(30, 17, 1), append(from(0, 8, 1), from(20, 8, 1)...)), true},
		{of(from(0, 7, 1), from(30, 16, 1), from(20, 8, 1)), 7, of(nil, slices.Concat(from(0, 8, 1), from(20, 8, 1), from(30, 16, 1))), true},
		{of(from(0, 7, 1), from(30, 16, 1), from(20, 9, 1)), 7, of(nil, from(30, 16, 1), from(20, 9, 1), from(0, 8, 1)), true},
		{of(from(0, 7, 1), list(20), from(30, 9, 1)), 7, of(nil, list(20), from(30, 9, 1), from(0, 8, 1)), true},
		{of(from(0, 7, 1), from(60, 30, 1), list(20), list(22), list(21)), 7, of(nil, from(60, 30, 1), append(from(0, 8, 1), 20, 21, 22)), true},
		{of(from(0, 7, 1), from(60, 11, 1), list(20), list(22), list(21)), 7, of(nil, slices.Concat(from(0, 8, 1), list(20, 21, 22), from(60, 11, 1))), true},
		{of(from(0, 7, 1), from(60, 11, 1), list(20), list(22)), 7, of(nil, from(60, 11, 1), append(from(0, 8, 1), 20, 22)), true},
	} {
		adds(t, c.s, c.n, c.want, c.isNew)
		if x, fresh, e := secondAdd(c.s, c.n); !same(x, c.want) || fresh != c.isNew || e != api.OK {
			t.Errorf("the second reading of Add(%v, %d): %v, %v, %v", c.s, c.n, x, fresh, e)
		}
	}
}

// P12.3: a full store has room for nothing new, but what is there may be added again.
func TestFull(t *testing.T) {
	most := api.MaxKeys
	for _, s := range []api.Store{
		of(nil, from(10, most, 1)),
		of(nil, single(10, most)...),
		of(from(10, 7, 1), from(17, most-7, 1)),
		of(list(10), from(11, most-1, 1)),
	} {
		for _, n := range list(0, 9, 10+most, api.MaxNumber) {
			notAdded(t, s, n, api.ErrFull)
		}
		for _, n := range list(10, 11, 16, 17, 18, most, 9+most) {
			adds(t, s, n, s, false)
		}
		for _, n := range list(-1, api.MaxNumber+1, math.MinInt, math.MaxInt) {
			notAdded(t, s, n, api.ErrRange)
		}
	}
	s := of(from(0, 6, 1), from(6, most-7, 1)) // one more has room, and no other behind it
	s = adds(t, s, api.MaxNumber, of(append(from(0, 6, 1), api.MaxNumber), s.Runs...), true)
	notAdded(t, s, api.MaxNumber-1, api.ErrFull)
	s = adds(t, s, 3, s, false)
	s = of(from(0, 7, 1), from(100000, most-8, 1)) // and so with a run that is made
	s = adds(t, s, 7, of(nil, s.Runs[0], from(0, 8, 1)), true)
	notAdded(t, s, 8, api.ErrFull)
	s = of(from(0, 7, 1), single(7, most-8)...) // and with all runs made one
	s = adds(t, s, api.MaxNumber, of(nil, append(from(0, most-1, 1), api.MaxNumber)), true)
	notAdded(t, s, most, api.ErrFull)
}

// P12.4: written out.
func TestAll(t *testing.T) {
	for _, c := range []struct {
		s    api.Store
		want []int
	}{
		{api.Store{}, nil},
		{of(list()), nil},
		{of(list(5)), list(5)},
		{of(list(5, 0, 3)), list(0, 3, 5)},
		{of(nil, list(1, 4)), list(1, 4)},
		{of(nil, list(1, 4), list(0, 9), list(2)), list(0, 1, 2, 4, 9)},
		{of(list(3, api.MaxNumber, 5), list(1, 4), list(0, 9), list(2)), list(0, 1, 2, 3, 4, 5, 9, api.MaxNumber)},
		{of(nil, list(9), list(8), list(7)), list(7, 8, 9)},
		{of(nil, single(0, 1000)...), from(0, 1000, 1)},
		{of(list(1), from(2, 9000, 2), from(3, 9000, 2), list(0)), from(0, 18002, 1)},
	} {
		if l, e := store.All(c.s); !slices.Equal(l, c.want) || e != api.OK {
			t.Errorf("All(%v): %v, %v, want %v", shown(c.s), l, e, c.want)
		}
	}
}

// The examples, and what comes of it: behind each number of keys, the runs are those of its eighths, by powers of two.
func TestExamples(t *testing.T) {
	d := die(12)
	var s api.Store
	var all []int
	for many := 1; many <= 2000; many++ {
		n := d.below(1 << 31)
		for slices.Contains(all, n) {
			n = d.below(1 << 31)
		}
		all = append(all, n)
		x, fresh, e := store.Add(s, n)
		if s = x; !fresh || e != api.OK {
			t.Fatalf("key %d: %v, %v", many, fresh, e)
		}
		if !slices.Equal(s.Loose, all[many-many%8:]) {
			t.Fatalf("behind %d keys %v lie loose", many, s.Loose)
		}
		var sizes, want []int
		for _, run := range s.Runs {
			sizes = append(sizes, len(run))
		}
		for size := 1 << 12; size >= 8; size /= 2 {
			if many&size != 0 {
				want = append(want, size)
			}
		}
		if !slices.Equal(sizes, want) {
			t.Fatalf("behind %d keys the runs have %v, want %v", many, sizes, want)
		}
		first := 0
		for _, run := range s.Runs { // the keys that came first are in the first run, and so on
			part := slices.Sorted(slices.Values(all[first : first+len(run)]))
			if !slices.Equal(run, part) {
				t.Fatalf("behind %d keys a run is %v, want %v", many, run, part)
			}
			first += len(run)
		}
	}
	for _, n := range all[1980:] {
		adds(t, s, n, s, false)
	}
}

// Every store of a few lists of a few keys, wrong ones among them.
func TestEverySmallStore(t *testing.T) {
	signs := list(0, 1, 2, 3, -1, api.MaxNumber+1, math.MaxInt) // the last one begins a new list
	right := 0
	for code := range 7 * 7 * 7 * 7 * 7 * 7 {
		lists := [][]int{nil}
		for rest := code; rest > 0; rest /= 7 {
			sign := signs[rest%7]
			if sign == math.MaxInt {
				lists = append(lists, nil)
				continue
			}
			lists[len(lists)-1] = append(lists[len(lists)-1], sign)
		}
		s := of(lists[0], lists[1:]...)
		asRead(t, s, -1, 0, 1, 3, 4)
		if t.Failed() {
			return
		}
		if store.Check(s) == api.OK {
			right++
		}
	}
	if right < 100 {
		t.Errorf("only %d stores may be", right)
	}
}

// die: numbers that look drawn, the same each time.
type die uint64

func (d *die) below(most int) int {
	*d = *d*6364136223846793005 + 1442695040888963407
	return int(uint64(*d>>33) % uint64(most))
}

// keys, so many, no two the same.
func (d *die) keys(many int) []int {
	l := from(d.below(3), many, 1+d.below(4))
	for i := range l {
		j := i + d.below(many-i)
		l[i], l[j] = l[j], l[i]
	}
	return l
}

// store that may be, with runs of all sizes, and often almost too many that lie loose.
func (d *die) store() api.Store {
	keys := d.keys(1 + d.below(60))
	loose := min(len(keys), 7-d.below(2)*d.below(8))
	s := of(keys[:loose:loose])
	for keys = keys[loose:]; len(keys) > 0; {
		many := 1 + d.below(min(len(keys), 1+d.below(30)))
		run := slices.Clone(keys[:many])
		slices.Sort(run)
		s.Runs, keys = append(s.Runs, run), keys[many:]
	}
	return s
}

// spoil a key of a store, so that it mostly may be no more.
func (d *die) spoil(s api.Store) {
	l := s.Loose
	if len(s.Runs) > 0 && d.below(2) == 0 {
		l = s.Runs[d.below(len(s.Runs))]
	}
	if len(l) > 0 {
		l[d.below(len(l))] = numbers()[d.below(len(numbers()))]
	}
}

// All faces against the second reading, at drawn stores.
func TestDrawn(t *testing.T) {
	d := die(120)
	made, wrong := 0, 0
	for range 20000 {
		s := d.store()
		if d.below(4) == 0 {
			d.spoil(s)
		}
		n := d.below(200)
		asRead(t, s, n, d.below(200), d.below(20), numbers()[d.below(len(numbers()))])
		if t.Failed() {
			return
		}
		x, fresh, e := store.Add(s, n)
		if fresh && len(x.Loose) == 0 && len(x.Runs) < len(s.Runs) {
			made++
		}
		if e == api.ErrState {
			wrong++
		}
	}
	if made < 1000 || wrong < 1000 {
		t.Errorf("only %d times runs became one, and %d stores were wrong", made, wrong)
	}
}

// What comes of it: what was added is there, once; runs grow shorter from the first one to the last one.
func TestLives(t *testing.T) {
	d := die(121)
	for range 100 {
		var s api.Store
		met := map[int]bool{}
		most := 1 + d.below(400)
		for range 200 {
			n := d.below(most)
			x, want, f := secondAdd(s, n)
			y, fresh, e := store.Add(s, n)
			if !same(x, y) || fresh != want || fresh == met[n] || e != f || e != api.OK {
				t.Fatalf("Add(%v, %d): %v, %v, %v, want %v, %v, %v", s, n, y, fresh, e, x, want, f)
			}
			s, met[n] = y, true
			for i := 1; i < len(s.Runs); i++ {
				if len(s.Runs[i]) >= len(s.Runs[i-1]) {
					t.Fatalf("the runs of %v do not grow shorter", s)
				}
			}
		}
		for n := range most {
			if has, e := store.Has(s, n); has != met[n] || e != api.OK {
				t.Fatalf("Has(%v, %d): %v, %v", s, n, has, e)
			}
		}
		if l, e := store.All(s); len(l) != len(met) || !slices.IsSorted(l) || e != api.OK {
			t.Fatalf("All(%v): %v, %v, of %d keys", s, l, e, len(met))
		}
	}
}

// whole list, copied up to its cap.
func whole[T any](l []T) []T { return append([]T(nil), l[:cap(l)]...) }

// roomy: the same list, with spare room that is not empty.
func roomy[T any](l []T, spare ...T) []T {
	return append(slices.Clone(l), spare...)[:len(l)]
}

// roomyStore: the same store, all lists with spare room.
func roomyStore(s api.Store) api.Store {
	x := of(roomy(s.Loose, 7, -7, 77, 777))
	for _, run := range s.Runs {
		x.Runs = append(x.Runs, roomy(run, 8, -8, 88))
	}
	x.Runs = roomy(x.Runs, list(9, -9), list(99), nil)
	return x
}

// wholeStore: copies of all its lists up to their caps, those in spare room too.
func wholeStore(s api.Store) [][]int {
	l := [][]int{whole(s.Loose)}
	for _, run := range whole(s.Runs) {
		l = append(l, whole(run))
	}
	return l
}

// Lists that are handed in stay as they are, their spare room too.
func TestListsHandedInStay(t *testing.T) {
	d := die(122)
	for range 3000 {
		s := d.store()
		if d.below(4) == 0 {
			d.spoil(s)
		}
		s = roomyStore(s)
		before := wholeStore(s)
		store.Check(s)
		store.All(s)
		for _, n := range list(-1, 0, d.below(200), d.below(200), api.MaxNumber) {
			store.Has(s, n)
			store.Add(s, n)
		}
		if after := wholeStore(s); !reflect.DeepEqual(before, after) {
			t.Fatalf("%v were handed in, %v are left", before, after)
		}
	}
}

// spoilt: a list is filled up to its cap.
func spoilt[T any](l []T, with T) {
	for i := range l[:cap(l)] {
		l[:cap(l)][i] = with
	}
}

// Answers are new memory, spare room too: what is written there shows in no argument, in no other answer, and in no other list of the same one.
func TestAnswersAreNew(t *testing.T) {
	d := die(123)
	for range 3000 {
		s := roomyStore(d.store())
		before := wholeStore(s)
		n := d.below(200)
		if d.below(4) == 0 {
			n = before[0][0] // it is there already, or in spare room
		}
		first, _, _ := store.Add(s, n)
		other, _, _ := store.Add(s, n)
		want, _, _ := secondAdd(s, n)
		spoilt(first.Loose, -7)
		for i := range first.Runs {
			if !slices.EqualFunc(first.Runs[i:], want.Runs[i:], slices.Equal) {
				t.Fatalf("behind a change of the lists ahead %v are left of %v", first.Runs[i:], want.Runs[i:])
			}
			spoilt(first.Runs[i], -7)
		}
		for _, run := range whole(first.Runs) { // what lies in its spare room, too
			spoilt(run, -7)
		}
		spoilt(first.Runs, list(-7))
		if !same(other, want) || !reflect.DeepEqual(before, wholeStore(s)) {
			t.Fatalf("behind a change of an answer %v is left of %v, and %v of %v", other, want, wholeStore(s), before)
		}
	}
}

// The keys that All answers are new memory, also where there is one list only.
func TestKeysAreNew(t *testing.T) {
	d := die(124)
	stores := []api.Store{of(list(3, 1, 2)), of(list(5)), of(nil, list(1, 2)), of(nil, from(0, 500, 1)), of(list(9), list(1, 2))}
	for range 2000 {
		stores = append(stores, d.store())
	}
	for _, s := range stores {
		s = roomyStore(s)
		before := wholeStore(s)
		first, _ := store.All(s)
		other, _ := store.All(s)
		want, _ := secondAll(s)
		spoilt(first, -7)
		if !slices.Equal(other, want) || !reflect.DeepEqual(before, wholeStore(s)) {
			t.Fatalf("behind a change of an answer %v are left of %v, and %v of %v", other, want, wholeStore(s), before)
		}
	}
}

// What a call answers hangs on its arguments alone: the same again, whether an empty list is nil or not.
func TestTheSameAgain(t *testing.T) {
	d := die(125)
	for range 500 {
		s, n := d.store(), d.below(200)
		for range 2 {
			x, fresh, e := store.Add(s, n)
			y, other, f := store.Add(roomyStore(s), n)
			if !same(x, y) || fresh != other || e != f {
				t.Fatalf("Add(%v, %d): %v, %v, %v, and then %v, %v, %v", s, n, x, fresh, e, y, other, f)
			}
		}
	}
	for _, s := range []api.Store{{}, of(list()), {Runs: [][]int{}}, {Loose: list(), Runs: [][]int{}}} {
		adds(t, s, 5, of(list(5)), true)
		if l, e := store.All(s); len(l) != 0 || e != api.OK {
			t.Errorf("All(%v): %v, %v", s, l, e)
		}
	}
}
