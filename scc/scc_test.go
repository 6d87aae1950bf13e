package scc_test

import (
	"math"
	"reflect"
	"slices"
	"testing"

	"foretell/api"
	"foretell/scc"
)

// graph without sets, that begins at so many of the first spots; where each spot leads is written out.
func graph(init int, next ...[]int) api.Graph {
	return api.Graph{Spots: make([]api.Spot, len(next)), Init: init, Next: next, Sets: make([]int, len(next))}
}

// with so many sets, and what each spot belongs to.
func with(g api.Graph, many int, sets ...int) api.Graph {
	g.Many, g.Sets = many, sets
	return g
}

// to these places.
func to(l ...int) []int { return l }

// shown: a graph as it is told where something is wrong; of a great one its size alone.
func shown(g api.Graph) any {
	if len(g.Spots) > 50 || len(g.Next) > 50 || len(g.Sets) > 50 {
		return struct{ spots, init, next, sets, many int }{len(g.Spots), g.Init, len(g.Next), len(g.Sets), g.Many}
	}
	return g
}

// mayBe: the graph is one.
func mayBe(t *testing.T, g api.Graph) {
	t.Helper()
	if e := scc.Check(g); e != api.OK {
		t.Errorf("Check(%v): %v", shown(g), e)
	}
}

// refused by every face.
func refused(t *testing.T, g api.Graph) {
	t.Helper()
	if e := scc.Check(g); e != api.ErrState {
		t.Errorf("Check(%v): %v, want %v", shown(g), e, api.ErrState)
	}
	if l, e := scc.Parts(g); len(l) != 0 || e != api.ErrState {
		t.Errorf("Parts(%v): %v, %v, want %v", shown(g), l, e, api.ErrState)
	}
	if l, e := scc.Reached(g); len(l) != 0 || e != api.ErrState {
		t.Errorf("Reached(%v): %v, %v, want %v", shown(g), l, e, api.ErrState)
	}
	if n, e := scc.Fair(g); n != 0 || e != api.ErrState {
		t.Errorf("Fair(%v): %v, %v, want %v", shown(g), n, e, api.ErrState)
	}
	if l, e := scc.Lasso(g); len(l.Stem) != 0 || len(l.Loop) != 0 || e != api.ErrState {
		t.Errorf("Lasso(%v): %v, %v, want %v", shown(g), l, e, api.ErrState)
	}
}

// parts of a graph: just these.
func parts(t *testing.T, g api.Graph, want []int) {
	t.Helper()
	if l, e := scc.Parts(g); !slices.Equal(l, want) || e != api.OK {
		if len(want) > 50 {
			t.Errorf("Parts(%v): %d places that are not as they should be, %v", shown(g), len(l), e)
			return
		}
		t.Errorf("Parts(%v): %v, %v, want %v", g, l, e, want)
	}
}

// reached are just these places.
func reached(t *testing.T, g api.Graph, places ...int) {
	t.Helper()
	want := make([]bool, len(g.Spots))
	for _, place := range places {
		want[place] = true
	}
	if l, e := scc.Reached(g); !slices.Equal(l, want) || e != api.OK {
		if len(want) > 50 {
			t.Errorf("Reached(%v): %d truths that are not as they should be, %v", shown(g), len(l), e)
			return
		}
		t.Errorf("Reached(%v): %v, %v, want %v", g, l, e, want)
	}
}

// fair: the least place is this one, and there is a lasso.
func fair(t *testing.T, g api.Graph, want int) {
	t.Helper()
	if n, e := scc.Fair(g); n != want || e != api.OK {
		t.Errorf("Fair(%v): %v, %v, want %v", shown(g), n, e, want)
	}
	lasso(t, g)
}

// unfair: no fair part is reached, and there is no lasso.
func unfair(t *testing.T, g api.Graph) {
	t.Helper()
	if n, e := scc.Fair(g); n != 0 || e != api.ErrNone {
		t.Errorf("Fair(%v): %v, %v, want %v", shown(g), n, e, api.ErrNone)
	}
	if l, e := scc.Lasso(g); len(l.Stem) != 0 || len(l.Loop) != 0 || e != api.ErrNone {
		t.Errorf("Lasso(%v): %v, %v, want %v", shown(g), l, e, api.ErrNone)
	}
}

// isLasso: a second reading of P8.5.
func isLasso(g api.Graph, l api.Lasso) bool {
	if len(l.Loop) == 0 {
		return false
	}
	met := map[int]bool{}
	for _, place := range l.Loop {
		for bit := range g.Many {
			if g.Sets[place]>>bit%2 == 1 {
				met[bit] = true
			}
		}
	}
	way := append(slices.Concat(l.Stem, l.Loop), l.Loop[0])
	for i, place := range way[1:] {
		if !slices.Contains(g.Next[way[i]], place) {
			return false
		}
	}
	return way[0] >= 0 && way[0] < g.Init && len(met) == g.Many
}

// lasso: there is one, and it is told alike each time.
func lasso(t *testing.T, g api.Graph) api.Lasso {
	t.Helper()
	l, e := scc.Lasso(g)
	if e != api.OK || !isLasso(g, l) {
		t.Errorf("Lasso(%v): %v, %v, which is none", shown(g), l, e)
	}
	again, e := scc.Lasso(g)
	if e != api.OK || !slices.Equal(l.Stem, again.Stem) || !slices.Equal(l.Loop, again.Loop) {
		t.Errorf("Lasso(%v): %v, and then %v, %v", shown(g), l, again, e)
	}
	return l
}

// onlyLasso: where there is one alone, of which no longer one is made by going round more often, this is told.
func onlyLasso(t *testing.T, g api.Graph, stem, loop []int) {
	t.Helper()
	if l := lasso(t, g); !slices.Equal(l.Stem, stem) || !slices.Equal(l.Loop, loop) {
		t.Errorf("Lasso(%v): %v, want %v and %v", g, l, stem, loop)
	}
}

// ring of so many spots, each of which leads to the next one.
func ring(many int) api.Graph {
	g := line(many)
	g.Next[many-1] = to(0)
	return g
}

// line of so many spots, each of which leads to the next one, the last one nowhere.
func line(many int) api.Graph {
	g := graph(1, make([][]int, many)...)
	for place := range many - 1 {
		g.Next[place] = to(place + 1)
	}
	return g
}

// P8.1
func TestGraphsThatMayBe(t *testing.T) {
	mayBe(t, api.Graph{})
	mayBe(t, api.Graph{Spots: []api.Spot{}, Next: [][]int{}, Sets: []int{}})
	mayBe(t, api.Graph{Many: api.MaxTempo})
	mayBe(t, graph(0, nil))
	mayBe(t, graph(1, to()))
	mayBe(t, graph(1, to(0, 0, 0)))
	mayBe(t, graph(0, to(2), to(1, 0), to(2, 0)))
	mayBe(t, graph(3, to(2), to(1, 0), to(2, 0)))
	for many := range api.MaxTempo + 1 {
		mayBe(t, with(graph(1, to(1), nil), many, 0, 1<<many-1))
	}
	mayBe(t, ring(api.MaxGraph))
	most := ring(api.MaxGraph)
	most.Init = api.MaxGraph
	mayBe(t, most)
	// spots are not looked at
	g := graph(1, to(1), to(2), to(0))
	g.Spots = []api.Spot{{State: math.MinInt, Claim: math.MaxInt}, {State: -1, Claim: -1}, {State: -1, Claim: -1}}
	mayBe(t, g)
	parts(t, g, to(0, 0, 0))
	fair(t, g, 0)
}

// P8.1: each of the bounds, by all faces.
func TestGraphsThatMayNotBe(t *testing.T) {
	// spots
	refused(t, ring(api.MaxGraph+1))
	refused(t, line(api.MaxGraph+1))
	// a Next for each, and a Sets for each
	for _, many := range []int{0, 1, 3, 4, 5} {
		g := graph(1, make([][]int, 2)...)
		g.Next = make([][]int, many)
		if many != 2 {
			refused(t, g)
		}
		g = graph(1, make([][]int, 2)...)
		g.Sets = make([]int, many)
		if many != 2 {
			refused(t, g)
		}
		g.Next, g.Sets = make([][]int, many), make([]int, many)
		refused(t, g)
	}
	refused(t, api.Graph{Next: [][]int{nil}})
	refused(t, api.Graph{Sets: []int{0}})
	refused(t, api.Graph{Spots: make([]api.Spot, 1)})
	refused(t, api.Graph{Next: [][]int{nil}, Sets: []int{0}})
	// places, wherever they stand
	for _, wrong := range []int{math.MinInt, math.MinInt + 1, -1 << 32, -3, -2, -1, 3, 4, 1 << 32, math.MaxInt - 1, math.MaxInt} {
		for place := range 3 {
			g := graph(1, to(0, 1), to(1), to(2, 0, 1))
			g.Next[place] = to(wrong)
			refused(t, g)
			g.Next[place] = to(2, 1, wrong)
			refused(t, g)
			g.Next[place] = to(wrong, 0)
			refused(t, g)
			g.Init = 0
			refused(t, g)
		}
	}
	// Sets
	for many := range api.MaxTempo + 1 {
		for _, wrong := range []int{math.MinInt, math.MinInt + 1, -1 << 32, -1<<many - 1, -2, -1, 1 << many, 1<<many + 1, 64, 1 << 32, math.MaxInt} {
			for place := range 3 {
				g := with(graph(1, to(0), to(1), to(2)), many, 0, 0, 0)
				g.Sets[place] = wrong
				refused(t, g)
			}
		}
	}
	// Init
	for _, wrong := range []int{math.MinInt, -1 << 32, -2, -1, 3, 4, 1 << 32, math.MaxInt} {
		refused(t, graph(wrong, to(0), to(1)))
	}
	refused(t, api.Graph{Init: 1})
	refused(t, api.Graph{Init: -1})
	// Many
	for _, wrong := range []int{math.MinInt, -1 << 32, -64, -2, -1, 7, 8, 31, 32, 62, 63, 64, 65, 1 << 32, math.MaxInt} {
		refused(t, with(graph(1, to(0)), wrong, 0))
		refused(t, with(graph(1, to(0)), wrong, 1))
		refused(t, with(graph(1, to(0)), wrong, -1))
		refused(t, api.Graph{Many: wrong})
	}
	// ahead of all else: no fair part, and none of the spots is reached
	refused(t, graph(0, to(1), to(2)))
	refused(t, with(graph(0, nil), 1, 2))
}

// P8.2
func TestParts(t *testing.T) {
	parts(t, api.Graph{}, nil)
	parts(t, graph(0, nil), to(0))
	parts(t, graph(0, to(0)), to(0))
	parts(t, graph(0, to(1), to()), to(0, 1))
	parts(t, graph(0, to(), to(0)), to(0, 1))
	parts(t, graph(0, to(1), to(0)), to(0, 0))
	parts(t, graph(0, to(1), to(0, 2), nil), to(0, 0, 2))
	parts(t, graph(0, to(0), to(1), to(2)), to(0, 1, 2))
	// the least one, wherever the way round comes by
	parts(t, graph(0, to(3), to(2), to(3), to(1)), to(0, 1, 1, 1))
	parts(t, graph(0, nil, to(3), to(1), to(2)), to(0, 1, 1, 1))
	parts(t, graph(0, to(2), to(0), to(1)), to(0, 0, 0))
	parts(t, graph(0, to(4), nil, to(4), to(2), to(3, 1)), to(0, 1, 2, 2, 2))
	// two rings, and a step from one to the other alone
	parts(t, graph(0, to(2), to(3), to(0), to(1, 0)), to(0, 1, 0, 1))
	parts(t, graph(0, to(2, 1), to(3), to(0), to(1)), to(0, 1, 0, 1))
	parts(t, graph(0, to(2, 1), to(3), to(0), to(1, 2)), to(0, 0, 0, 0))
	// two ways down that meet again lead not to one another
	parts(t, graph(0, to(1, 2), to(3), to(3), nil), to(0, 1, 2, 3))
	parts(t, graph(0, to(1, 2), to(3), to(3, 1), to(1)), to(0, 1, 2, 1))
	// by a chain of short rings
	parts(t, graph(0, to(1), to(0, 2), to(1, 3), to(2, 4), to(3)), to(0, 0, 0, 0, 0))
	parts(t, graph(0, to(1), to(0, 2), to(3), to(2, 4), to(3)), to(0, 0, 2, 2, 2))
	// a spot stands twice, or leads to itself
	parts(t, graph(0, to(1, 1, 0), to(1, 1), to(2, 0, 0, 1)), to(0, 1, 2))
	parts(t, graph(0, to(0, 1, 1), to(1, 0, 0)), to(0, 0))
	// it does not hang on where the graph begins, or on sets
	for init := range 4 {
		parts(t, with(graph(init, to(0), to(2), to(1)), 2, 3, init, 0), to(0, 1, 1))
	}
}

// P8.3
func TestReached(t *testing.T) {
	reached(t, api.Graph{})
	reached(t, graph(0, to(0)))
	reached(t, graph(0, to(1), to(0)))
	reached(t, graph(1, nil), 0)
	reached(t, graph(1, nil, to(0)), 0)
	reached(t, graph(1, to(1), nil), 0, 1)
	reached(t, graph(2, nil, nil, to(0, 1)), 0, 1)
	reached(t, graph(1, to(2), to(0), to(3), to(0)), 0, 2, 3)
	reached(t, graph(2, nil, to(3), to(1), to(3)), 0, 1, 3)
	reached(t, graph(1, to(4), to(2), to(1), nil, to(3, 3), to(5, 0)), 0, 3, 4)
	reached(t, graph(3, to(0), to(1), to(2)), 0, 1, 2)
	// Sets do not count
	reached(t, with(graph(1, to(1), to(0), to(0)), 1, 0, 0, 1), 0, 1)
}

// P8.4 and P8.5
func TestFair(t *testing.T) {
	// a step within the part
	unfair(t, api.Graph{})
	unfair(t, api.Graph{Many: 3})
	unfair(t, graph(1, nil))
	fair(t, graph(1, to(0)), 0)
	unfair(t, graph(1, to(1), nil))
	fair(t, graph(1, to(1), to(1)), 1)
	fair(t, graph(1, to(1), to(0)), 0)
	unfair(t, graph(3, to(1, 2), to(2), nil))
	unfair(t, with(graph(1, nil), 1, 1))
	unfair(t, with(graph(1, to(1), nil), 1, 1, 1))
	// it is reached
	unfair(t, graph(0, to(0)))
	unfair(t, graph(0, to(1), to(0)))
	unfair(t, graph(1, nil, to(1)))
	unfair(t, graph(1, nil, to(1, 0)))
	fair(t, graph(2, nil, to(1)), 1)
	fair(t, graph(1, to(2), to(1), to(2)), 2)
	unfair(t, graph(2, to(3), to(3), to(3, 2), nil))
	// each set is met in the part, in one spot or in several
	unfair(t, with(graph(1, to(0)), 1, 0))
	fair(t, with(graph(1, to(0)), 1, 1), 0)
	unfair(t, with(graph(1, to(0)), 2, 1))
	unfair(t, with(graph(1, to(0)), 2, 2))
	fair(t, with(graph(1, to(0)), 2, 3), 0)
	fair(t, with(graph(1, to(1), to(0)), 2, 2, 1), 0)
	unfair(t, with(graph(1, to(1), to(0)), 2, 1, 1))
	unfair(t, with(graph(1, to(1), to(0)), 3, 3, 3))
	fair(t, with(graph(1, to(1), to(2), to(1)), 2, 0, 2, 1), 1)
	// what is met ahead of the part, or behind it, is not met in it
	unfair(t, with(graph(1, to(1), to(1)), 1, 1, 0))
	unfair(t, with(graph(1, to(0, 1), nil), 1, 0, 1))
	unfair(t, with(graph(1, to(0, 1), to(1)), 2, 1, 2))
	unfair(t, with(graph(1, to(1), to(0, 2), to(3), to(2)), 2, 1, 1, 2, 2))
	fair(t, with(graph(1, to(1), to(0, 2), to(3), to(2)), 2, 1, 1, 2, 1), 2)
	// the least place of all, though others are met earlier
	fair(t, graph(1, to(3, 2, 1), to(1), to(2), to(3)), 1)
	fair(t, graph(1, to(2), nil, to(2)), 2)
	fair(t, graph(1, to(4), to(1), to(3), to(2), to(4, 3)), 2)
	fair(t, with(graph(1, to(4), to(4), to(3), to(2), to(3, 1)), 1, 0, 0, 1, 0, 0), 2)
	fair(t, with(graph(1, to(4), to(4), to(3), to(2), to(3, 1)), 1, 0, 0, 1, 0, 1), 1)
	// the part's least one, though another one of it has what counts
	fair(t, with(graph(1, to(3), to(2), to(3), to(1, 3)), 1, 0, 0, 0, 1), 1)
	// as many sets as there may be
	six := ring(6)
	six.Many, six.Sets = api.MaxTempo, to(1, 2, 4, 8, 16, 32)
	fair(t, six, 0)
	for place := range six.Sets {
		other := with(six, api.MaxTempo, slices.Clone(six.Sets)...)
		other.Sets[place] = 63
		fair(t, other, 0)
		other.Sets[place] = 63 - six.Sets[place] // no other spot has this one's
		unfair(t, other)
	}
}

// P8.5: where no other lasso can be told, but for more rounds.
func TestLasso(t *testing.T) {
	onlyLasso(t, graph(1, to(0)), nil, to(0))
	onlyLasso(t, graph(1, to(1), to(1)), to(0), to(1))
	onlyLasso(t, graph(1, to(1), to(0)), nil, to(0, 1))
	onlyLasso(t, graph(2, nil, to(1)), nil, to(1))
	onlyLasso(t, graph(2, nil, to(2), to(1)), nil, to(1, 2))
	onlyLasso(t, graph(1, to(3), nil, to(4), to(2), to(5), to(4)), to(0, 3, 2), to(4, 5))
	onlyLasso(t, graph(1, to(1, 2), nil, to(3), to(2, 1)), to(0), to(2, 3))
	onlyLasso(t, with(graph(1, to(1, 2), to(1), to(2)), 1, 1, 0, 1), to(0), to(2))
	onlyLasso(t, with(graph(1, to(2), to(0), to(1)), 2, 0, 1, 2), nil, to(0, 2, 1))
	onlyLasso(t, with(graph(2, to(0), to(1), to(2)), 2, 1, 3, 3), nil, to(1))
	// a detour for a set, and some spots must be passed twice
	for _, g := range []api.Graph{
		with(graph(1, to(0, 1), to(0)), 1, 0, 1),
		with(graph(1, to(1), to(1, 2), to(1)), 1, 0, 0, 1),
		with(graph(1, to(1, 2), to(0), to(0)), 2, 0, 1, 2),
		with(graph(1, to(1, 2, 3), to(0), to(0), to(0)), 3, 0, 4, 1, 2),
		with(graph(1, to(1), to(0, 2), to(1, 3), to(2)), 2, 1, 0, 0, 2),
		with(graph(2, to(4), to(3), to(3, 1), to(2, 3), nil), 3, 7, 2, 4, 1, 7),
	} {
		lasso(t, g)
	}
}

// secondReaches: for each two spots, whether one reaches the other; a second reading of P8.2.
func secondReaches(g api.Graph) [][]bool {
	reaches := make([][]bool, len(g.Spots))
	for from := range reaches {
		reaches[from] = make([]bool, len(g.Spots))
		reaches[from][from] = true
		for _, next := range g.Next[from] {
			reaches[from][next] = true
		}
	}
	for by := range reaches {
		for from := range reaches {
			for to := range reaches {
				reaches[from][to] = reaches[from][to] || reaches[from][by] && reaches[by][to]
			}
		}
	}
	return reaches
}

// secondFair: whether the part of a spot is, a second reading of P8.4.
func secondFair(g api.Graph, reaches [][]bool, place int) bool {
	within := func(other int) bool { return reaches[place][other] && reaches[other][place] }
	steps, met := false, 0
	for other := range g.Spots {
		if within(other) {
			met |= g.Sets[other]
			steps = steps || slices.ContainsFunc(g.Next[other], within)
		}
	}
	return steps && met == 1<<g.Many-1
}

// hold the faces against the second reading; tells whether there is a fair part that is reached.
func hold(t *testing.T, g api.Graph) bool {
	t.Helper()
	mayBe(t, g)
	reaches := secondReaches(g)
	var wantParts, wantReached []int
	wantFair := -1
	for place := range g.Spots {
		for other := range g.Spots {
			if reaches[place][other] && reaches[other][place] {
				wantParts = append(wantParts, other)
				break
			}
		}
		for first := range g.Init {
			if reaches[first][place] {
				wantReached = append(wantReached, place)
				if wantFair < 0 && secondFair(g, reaches, place) {
					wantFair = place
				}
				break
			}
		}
	}
	parts(t, g, wantParts)
	reached(t, g, wantReached...)
	if wantFair < 0 {
		unfair(t, g)
	} else {
		fair(t, g, wantFair)
	}
	return wantFair >= 0
}

// P8.1 to P8.5: every graph of up to three spots, of up to two sets.
func TestEverySmallGraph(t *testing.T) {
	for many := range 4 {
		for steps := range 1 << (many * many) {
			next := make([][]int, many)
			for from := range next {
				for to := range next {
					if steps>>(from*many+to)%2 == 1 {
						next[from] = append(next[from], to)
					}
				}
			}
			for sets := range 3 {
				for bits := range 1 << (sets * many) {
					g := graph(0, next...)
					g.Many = sets
					for place := range g.Sets {
						g.Sets[place] = bits >> (sets * place) % (1 << sets)
					}
					for g.Init = range many + 1 {
						hold(t, g)
					}
				}
				if t.Failed() {
					t.Fatal("a graph is not as it should be")
				}
			}
		}
	}
}

// die: numbers that look drawn, the same each time.
type die uint64

func (d *die) below(most int) int {
	*d = *d*6364136223846793005 + 1442695040888963407
	return int(uint64(*d>>33) % uint64(most))
}

// graph that looks drawn, of up to so many spots, each of which leads to fewer than so many.
func (d *die) graph(most, steps int) api.Graph {
	g := graph(0, make([][]int, d.below(most+1))...)
	g.Init = d.below(len(g.Spots) + 1)
	if g.Init > 2 && d.below(2) == 0 { // where it begins everywhere little is left to be reached
		g.Init = 1
	}
	g.Many = d.below(api.MaxTempo + 1)
	for place := range g.Spots {
		g.Spots[place] = api.Spot{State: d.below(5), Claim: d.below(5)}
		for range d.below(steps) {
			g.Next[place] = append(g.Next[place], d.below(len(g.Spots)))
		}
		g.Sets[place] = d.below(1<<g.Many) | d.below(1<<g.Many)
	}
	return g
}

// P8.1 to P8.5, and that they do not hang on the order of Next, or on what stands twice in it.
func TestDrawn(t *testing.T) {
	d := die(8)
	found, not := 0, 0
	for range 6000 {
		g := d.graph(20, 2+d.below(3))
		if hold(t, g) {
			found++
		} else {
			not++
		}
		for place, l := range g.Next {
			g.Next[place] = append(slices.Clone(l), l...)
			slices.Reverse(g.Next[place])
		}
		hold(t, g)
		if t.Failed() {
			t.Fatal("a drawn graph is not as it should be")
		}
	}
	if found < 1000 || not < 1000 {
		t.Errorf("too few were drawn: %d with a fair part, %d without", found, not)
	}
}

// counted from 0 on.
func counted(many int) []int {
	l := make([]int, many)
	for i := range l {
		l[i] = i
	}
	return l
}

// P8.2 to P8.5: as many spots as there may be, and ways as long.
func TestGreatest(t *testing.T) {
	all := counted(api.MaxGraph)
	most := ring(api.MaxGraph)
	parts(t, most, make([]int, api.MaxGraph))
	reached(t, most, all...)
	onlyLong(t, most, 0, api.MaxGraph)

	// the other way round
	back := graph(1, make([][]int, api.MaxGraph)...)
	for place := range all {
		back.Next[place] = to((place + api.MaxGraph - 1) % api.MaxGraph)
	}
	parts(t, back, make([]int, api.MaxGraph))
	reached(t, back, all...)
	fair(t, back, 0)

	// a line, then one with a step back at its end
	long := line(api.MaxGraph)
	parts(t, long, all)
	reached(t, long, all...)
	unfair(t, long)
	long.Next[api.MaxGraph-1] = to(api.MaxGraph - 2)
	fair(t, long, api.MaxGraph-2)
	onlyLong(t, long, api.MaxGraph-2, 2)

	// a line to and fro is one part; its sets lie at both ends and in the middle
	for place := range all[1:] {
		long.Next[place+1] = append(slices.Clone(long.Next[place+1]), place)
	}
	parts(t, long, make([]int, api.MaxGraph))
	long.Many = api.MaxTempo
	for bit := range api.MaxTempo {
		long.Sets[[]int{0, api.MaxGraph - 1, 1, api.MaxGraph - 2, api.MaxGraph / 2, 7000}[bit]] |= 1 << bit
	}
	fair(t, long, 0)
	long.Sets[7000] = 0
	unfair(t, long)

	// no steps at all, and begun everywhere
	lone := graph(api.MaxGraph, make([][]int, api.MaxGraph)...)
	parts(t, lone, all)
	reached(t, lone, all...)
	unfair(t, lone)
	lone.Next[api.MaxGraph-1] = to(api.MaxGraph - 1)
	onlyLong(t, lone, 0, 1)
	fair(t, lone, api.MaxGraph-1)
}

// onlyLong lasso there is: so many places in stem and loop.
func onlyLong(t *testing.T, g api.Graph, stem, loop int) {
	t.Helper()
	if l := lasso(t, g); len(l.Stem) != stem || len(l.Loop) != loop {
		t.Errorf("Lasso(%v): %d and %d places, want %d and %d", shown(g), len(l.Stem), len(l.Loop), stem, loop)
	}
}

// P8.2 to P8.5: a great many steps.
func TestManySteps(t *testing.T) {
	const many = 2000
	g := graph(1, make([][]int, many)...)
	g.Many = api.MaxTempo
	for place := range many { // each leads to all from its thousand on, so the last thousand is behind the first one
		g.Next[place] = counted(many)[place/1000*1000:]
		g.Sets[place] = 1 << (place % 7) % 64
	}
	want := slices.Concat(make([]int, 1000), slices.Repeat(to(1000), 1000))
	parts(t, g, want)
	reached(t, g, counted(many)...)
	fair(t, g, 0)
	for place := range 1000 {
		g.Sets[place] &= 31
	}
	fair(t, g, 1000)
	for place := range many {
		g.Sets[place] &= 62
	}
	unfair(t, g)
}

// P8.2 to P8.4: drawn rings and ways between them, of many spots, whose parts are known as they were made.
func TestDrawnGreat(t *testing.T) {
	d := die(88)
	for range 20 {
		many := 1000 + d.below(3000)
		names := counted(many) // places in a drawn order
		for i := range names {
			j := d.below(i + 1)
			names[i], names[j] = names[j], names[i]
		}
		g := graph(1, make([][]int, many)...)
		want := make([]int, many)
		for begin := 0; begin < many; {
			members := names[begin:min(many, begin+1+d.below(200))]
			least := slices.Min(members)
			for i, place := range members {
				want[place] = least
				if len(members) > 1 {
					g.Next[place] = append(g.Next[place], members[(i+1)%len(members)])
				}
				for range d.below(3) { // onward alone: within the rest of the part, or to what comes behind it
					g.Next[place] = append(g.Next[place], names[begin+i+d.below(many-begin-i)])
				}
			}
			begin += len(members)
		}
		parts(t, g, want)
		seen := make([]bool, many)
		queue := to(0)
		seen[0] = true
		for len(queue) > 0 {
			place := queue[len(queue)-1]
			queue = queue[:len(queue)-1]
			for _, next := range g.Next[place] {
				if !seen[next] {
					seen[next] = true
					queue = append(queue, next)
				}
			}
		}
		var places []int
		for place, met := range seen {
			if met {
				places = append(places, place)
			}
		}
		reached(t, g, places...)
	}
}

// whole list, copied up to its cap.
func whole[T any](l []T) []T { return append([]T(nil), l[:cap(l)]...) }

// cloneOf a graph, with the spare room of its lists.
func cloneOf(g api.Graph) api.Graph {
	c := api.Graph{Spots: whole(g.Spots), Init: g.Init, Next: whole(g.Next), Sets: whole(g.Sets), Many: g.Many}
	for place, l := range c.Next {
		c.Next[place] = whole(l)
	}
	return c
}

// roomy: the same graph, with spare room in each of its lists.
func roomy(g api.Graph) api.Graph {
	r := g
	r.Spots = append(slices.Clone(g.Spots), api.Spot{State: 7}, api.Spot{Claim: 7})[:len(g.Spots)]
	r.Sets = append(slices.Clone(g.Sets), 77, -7)[:len(g.Sets)]
	r.Next = append(slices.Clone(g.Next), to(0), to(7, -7))[:len(g.Next)]
	for place, l := range g.Next {
		r.Next[place] = append(slices.Clone(l), 9, -9)[:len(l)]
	}
	return r
}

// ask every face.
func ask(g api.Graph) {
	scc.Check(g)
	scc.Parts(g)
	scc.Reached(g)
	scc.Fair(g)
	scc.Lasso(g)
}

// What is handed in stays as it is, its spare room too.
func TestListsHandedInStay(t *testing.T) {
	d := die(888)
	for range 2000 {
		g := roomy(d.graph(8, 4))
		before := cloneOf(g)
		ask(g)
		if !reflect.DeepEqual(cloneOf(g), before) {
			t.Fatalf("%v was handed in, %v is left", before, g)
		}
		if len(g.Spots) > 0 { // and where it is refused
			g.Sets[d.below(len(g.Spots))] = 64
			before = cloneOf(g)
			ask(g)
			if !reflect.DeepEqual(cloneOf(g), before) {
				t.Fatalf("%v was handed in, %v is left", before, g)
			}
		}
	}
}

// Lists that share memory with one another may be handed in.
func TestOneListForAll(t *testing.T) {
	l := to(2, 0, 1, 3)
	hold(t, graph(1, l[:1], l[:3], l[2:3], l[1:]))
	hold(t, with(graph(1, l[:3], l[:3], l[1:3], l), 2, l...))
	hold(t, with(graph(1, l[:3], l[:3], l[:3]), 2, l[:3]...))
	if !slices.Equal(l, to(2, 0, 1, 3)) {
		t.Errorf("%v is left", l)
	}
}

// spoilt: a list is filled up to its cap.
func spoilt[T any](l []T, with T) {
	for i := range l[:cap(l)] {
		l[:cap(l)][i] = with
	}
}

// Answers are new memory, spare room too: what is written there shows in no argument, in no other answer and in no other list.
func TestAnswersAreNew(t *testing.T) {
	d := die(80)
	stems := 0
	for range 2000 {
		g := roomy(d.graph(10, 4))
		before := cloneOf(g)
		first, _ := scc.Parts(g)
		other, _ := scc.Parts(g)
		wantParts := slices.Clone(other)
		spoilt(first, -7)
		met, _ := scc.Reached(g)
		metToo, _ := scc.Reached(g)
		wantReached := slices.Clone(metToo)
		for i := range met[:cap(met)] {
			met[:cap(met)][i] = !met[:cap(met)][i]
		}
		l, e := scc.Lasso(g)
		later, _ := scc.Lasso(g)
		loop := slices.Clone(l.Loop)
		spoilt(l.Stem, -7)
		if !slices.Equal(l.Loop, loop) {
			t.Fatalf("the loop became %v when the stem was changed", l.Loop)
		}
		spoilt(l.Loop, -7)
		if len(l.Stem) > 0 {
			stems++
		}
		if !slices.Equal(other, wantParts) || !slices.Equal(metToo, wantReached) || e == api.OK && !isLasso(g, later) {
			t.Fatalf("behind a change of answers: %v, %v and %v are left", other, metToo, later)
		}
		if !reflect.DeepEqual(cloneOf(g), before) {
			t.Fatalf("behind a change of answers: %v is left of %v", g, before)
		}
	}
	if stems < 100 {
		t.Errorf("only %d lassos with a stem were drawn", stems)
	}
}
