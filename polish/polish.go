// Package polish: ops that stand ahead of their parts.
package polish

import (
	"slices"

	"foretell/api"
)

// partCounts: how many parts an op has, by its kind; the kinds begin at api.Num, so the first entry is never asked for.
var partCounts = [api.Globally + 1]int{
	api.Num:      0,
	api.Var:      0,
	api.Add:      2,
	api.Sub:      2,
	api.Mul:      2,
	api.Eq:       2,
	api.Lt:       2,
	api.And:      2,
	api.Or:       2,
	api.Not:      1,
	api.Yes:      0,
	api.No:       0,
	api.Prop:     0,
	api.Next:     1,
	api.Until:    2,
	api.Release:  2,
	api.Finally:  1,
	api.Globally: 1,
}

// Parts of a kind.
func Parts(kind int) (int, api.Errno) {
	if kind < api.Num || kind > api.Globally {
		return 0, api.ErrKind
	}
	return partCounts[kind], api.OK
}

// Ends: where what begins at each place ends.
func Ends(l []api.Op) (ends []int, e api.Errno) {
	// Anything but an Errno would be a fault of the reader's: it is not to pass for an answer.
	defer func() {
		if r := recover(); r != nil {
			ends, e = nil, r.(api.Errno)
		}
	}()
	if len(l) > api.MaxOps {
		return nil, api.ErrSize
	}
	ends = make([]int, len(l))
	if read(l, 0, ends) < len(l) {
		return nil, api.ErrForm
	}
	return ends, api.OK
}

// read what begins at a place: it notes where it and all within it end, and answers where it ends. It gives up by a panic with an Errno, so that no op around it has to ask how its parts went.
func read(l []api.Op, place int, ends []int) int {
	if place >= len(l) {
		panic(api.ErrShort)
	}
	parts, e := Parts(l[place].Kind)
	if e != api.OK {
		panic(e)
	}
	end := place + 1
	for range parts {
		end = read(l, end, ends)
	}
	ends[place] = end
	return end
}

// Split: the parts of the first op.
func Split(l []api.Op) ([][]api.Op, api.Errno) {
	ends, e := Ends(l)
	if e != api.OK {
		return nil, e
	}
	var parts [][]api.Op
	for place := 1; place < len(l); place = ends[place] {
		parts = append(parts, slices.Clone(l[place:ends[place]]))
	}
	return parts, api.OK
}

// Depth: how deep ops stand in one another.
func Depth(l []api.Op) (int, api.Errno) {
	ends, e := Ends(l)
	if e != api.OK {
		return 0, e
	}
	return depthAt(ends, 0), api.OK
}

// depthAt: how deep what begins at a place is.
func depthAt(ends []int, place int) int {
	deepest := 0
	for part := place + 1; part < ends[place]; part = ends[part] {
		deepest = max(deepest, depthAt(ends, part))
	}
	return deepest + 1
}
