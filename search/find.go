package search

import (
	"foretell/api"
	"foretell/tape"
)

// keyClaims: the key of a spot is so many times its state, and its claim, which is below that.
const keyClaims = 1 << api.MaxTempo

// keyOf a spot: no two spots have the same.
func keyOf(s api.Spot) int {
	return keyClaims*s.State + s.Claim
}

// find at a spot: what comes of going through it. That is the same behind each crash, for the same spots are known whenever its turn comes.
type find struct {
	key    int
	fresh  int    // so many spots behind it are new
	record []byte // as it stands on a tape
}

// chart of the spots that are known: by their keys, the places where they stand.
type chart map[int]int

// meet spots: the keys of those that are new, in their order.
func (c chart) meet(spots []api.Spot) []int {
	var fresh []int
	for _, s := range spots {
		key := keyOf(s)
		if _, known := c[key]; !known {
			c[key] = len(c)
			fresh = append(fresh, key)
		}
	}
	return fresh
}

// findsOf a graph: one for each spot, by places.
func findsOf(g api.Graph) ([]find, api.Errno) {
	finds := make([]find, len(g.Spots))
	known := chart{}
	known.meet(g.Spots[:g.Init])
	for place, s := range g.Spots {
		key := keyOf(s)
		fresh := known.meet(spotsAt(g, g.Next[place]))
		written, e := tape.Write(api.Tape{}, append([]int{known[key]}, fresh...))
		if e != api.OK {
			return nil, e
		}
		finds[place] = find{key: key, fresh: len(fresh), record: written.Data}
	}
	return finds, api.OK
}

// spotsAt places of a graph.
func spotsAt(g api.Graph, places []int) []api.Spot {
	spots := make([]api.Spot, len(places))
	for i, place := range places {
		spots[i] = g.Spots[place]
	}
	return spots
}
