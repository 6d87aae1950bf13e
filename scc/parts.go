package scc

import "foretell/api"

// walk through a graph, as deep as it goes: what is met behind a spot is gone through ahead of the rest behind it. The way down is a list, for it may be as long as the graph is great.
type walk struct {
	graph api.Graph
	down  []int // the way from where it began to where it is
	open  []int // what was met, and whose part is not told yet, in the order in which it was met
	when  []int // by places: as how many it was met, from 1 on; 0: not yet
	low   []int // by places: the earliest open one that is known to be reached, by when it was met
	gone  []int // by places: so many of its Next were gone along
	met   int
	parts []int // by places; none: not told yet
}

// partsOf a graph that may be.
func partsOf(g api.Graph) []int {
	many := len(g.Spots)
	w := walk{graph: g, when: make([]int, many), low: make([]int, many), gone: make([]int, many), parts: make([]int, many)}
	for place := range w.parts {
		w.parts[place] = none
	}
	for place := range many {
		if w.when[place] == 0 {
			w.meet(place)
			w.goOn()
		}
	}
	return w.parts
}

// meet a spot for the first time.
func (w *walk) meet(place int) {
	w.met++
	w.when[place] = w.met
	w.low[place] = w.met
	w.down = append(w.down, place)
	w.open = append(w.open, place)
}

// goOn until the walk is back where it began.
func (w *walk) goOn() {
	for len(w.down) > 0 {
		place := w.down[len(w.down)-1]
		if w.gone[place] == len(w.graph.Next[place]) {
			w.leave(place)
			continue
		}
		next := w.graph.Next[place][w.gone[place]]
		w.gone[place]++
		if w.when[next] == 0 {
			w.meet(next)
		} else if w.parts[next] == none {
			w.low[place] = min(w.low[place], w.when[next])
		}
	}
}

// leave a spot, the last one of the way down, when all behind it was gone through.
func (w *walk) leave(place int) {
	w.down = w.down[:len(w.down)-1]
	if w.low[place] == w.when[place] {
		w.tell(place)
		return
	}
	above := w.down[len(w.down)-1]
	w.low[above] = min(w.low[above], w.low[place])
}

// tell the part of a spot that reaches nothing earlier: it is all that is open from there on.
func (w *walk) tell(place int) {
	begin := len(w.open) - 1
	for w.open[begin] != place {
		begin--
	}
	part := w.open[begin:]
	w.open = w.open[:begin]
	least := place
	for _, other := range part {
		least = min(least, other)
	}
	for _, other := range part {
		w.parts[other] = least
	}
}
