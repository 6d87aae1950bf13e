package scc

import (
	"slices"

	"foretell/api"
)

// none of the places.
const none = -1

// anywhere is inside.
func anywhere(int) bool { return true }

// nowhere is what is wanted.
func nowhere(int) bool { return false }

// firsts: the places where a graph begins.
func firsts(g api.Graph) []int {
	places := make([]int, g.Init)
	for place := range places {
		places[place] = place
	}
	return places
}

// look for what is wanted, along what is inside alone, the nearest places first. It tells the first one that is found, or none, and where each place that was met came from; what it begins with came from none.
func look(g api.Graph, begin []int, inside, wanted func(place int) bool) (int, map[int]int) {
	came := map[int]int{}
	var line []int
	meet := func(places []int, from int) {
		for _, place := range places {
			if _, met := came[place]; !met && inside(place) {
				came[place] = from
				line = append(line, place)
			}
		}
	}
	meet(begin, none)
	for i := 0; i < len(line); i++ { // the line grows on the way
		if wanted(line[i]) {
			return line[i], came
		}
		meet(g.Next[line[i]], line[i])
	}
	return none, came
}

// way to what is wanted, both of its ends with it: no other one is shorter. Without places: there is none.
func way(g api.Graph, begin []int, inside, wanted func(place int) bool) []int {
	place, came := look(g, begin, inside, wanted)
	var back []int
	for place != none {
		back = append(back, place)
		place = came[place]
	}
	slices.Reverse(back)
	return back
}
