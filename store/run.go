package store

import "slices"

// withRun: runs, and a new one behind them; as long as the last one has at least as many keys as the one ahead of it, these two are one. How many become one shows in their sizes, so they are merged all together.
func withRun(runs [][]int, run []int) [][]int {
	stay, many := len(runs), len(run)
	for stay > 0 && many >= len(runs[stay-1]) {
		stay--
		many += len(runs[stay])
	}
	last := together(slices.Concat(runs[stay:], [][]int{run}))
	return append(copies(runs[:stay]), last)
}

// together: rising lists, one at least, become one, which rises; it is new, unless there is but one of them. They are taken by halves, so that each key is moved a few times only, however many there are.
func together(lists [][]int) []int {
	if len(lists) == 1 {
		return lists[0]
	}
	half := len(lists) / 2
	return merged(together(lists[:half]), together(lists[half:]))
}

// merged: two rising lists become a new one.
func merged(a, b []int) []int {
	all := make([]int, 0, len(a)+len(b))
	i, j := 0, 0
	for i < len(a) && j < len(b) {
		if a[i] < b[j] {
			all = append(all, a[i])
			i++
		} else {
			all = append(all, b[j])
			j++
		}
	}
	return append(append(all, a[i:]...), b[j:]...)
}

// risen: the same keys, rising.
func risen(keys []int) []int {
	keys = copied(keys)
	slices.Sort(keys)
	return keys
}

// copied: no answer shares memory with what was handed in.
func copied(keys []int) []int {
	return append([]int(nil), keys...)
}

// copies of runs, each of them new.
func copies(runs [][]int) [][]int {
	l := make([][]int, 0, len(runs)+1)
	for _, run := range runs {
		l = append(l, copied(run))
	}
	return l
}
