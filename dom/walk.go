package dom

import (
	"slices"

	"mortise/api"
)

// walk is a visit of block 0. The reachable blocks have numbers, in the order in which they are seen.
type walk struct {
	tos     [][]int // the successors of each block's end
	numbers []int   // of the blocks; -1: not reachable
	blocks  []int   // the block with each number
	parents []int   // from which one each number was visited; for the first one itself
	order   []int   // the blocks, the one that was finished last first
}

func newWalk(ends []api.End) walk {
	w := walk{tos: make([][]int, len(ends)), numbers: slices.Repeat([]int{-1}, len(ends))}
	for k, e := range ends {
		w.tos[k] = Tos(e)
	}
	var visit func(at, parent int)
	visit = func(at, parent int) {
		number := len(w.blocks)
		w.numbers[at] = number
		w.blocks, w.parents = append(w.blocks, at), append(w.parents, parent)
		for _, to := range w.tos[at] {
			if w.numbers[to] < 0 {
				visit(to, number)
			}
		}
		w.order = append(w.order, at)
	}
	if len(ends) > 0 {
		visit(0, 0)
	}
	slices.Reverse(w.order)
	return w
}

// dominators are what Dom is: from the block from which one was visited on, each time to the dominator, the first whose number is not greater than the semidominator. Nothing is repeated until it stays: in a tangle of loops that may take hundreds of rounds, and Split asks hundreds of times.
func (w walk) dominators() []int {
	semi := w.semidominators()
	nearest := slices.Clone(w.parents)
	for n := range nearest {
		for nearest[n] > semi[n] {
			nearest[n] = nearest[nearest[n]]
		}
	}
	doms := slices.Repeat([]int{-1}, len(w.tos))
	for n, at := range w.blocks {
		doms[at] = w.blocks[nearest[n]]
	}
	return doms
}

// semidominators are for each number, as Lengauer and Tarjan call it, the lowest one from which a path leads there whose other numbers, between the two, are all greater.
func (w walk) semidominators() []int {
	from := w.sources()
	semi := slices.Clone(w.parents)
	for n := len(semi) - 1; n > 0; n-- {
		for _, f := range from[n] {
			if f < n {
				semi[n] = min(semi[n], f)
			}
			for ; f > n; f = w.parents[f] {
				semi[n] = min(semi[n], semi[f])
			}
		}
	}
	return semi
}

// sources are for each number those from which edges lead to it.
func (w walk) sources() [][]int {
	from := make([][]int, len(w.blocks))
	for n, at := range w.blocks {
		for _, to := range w.tos[at] {
			from[w.numbers[to]] = append(from[w.numbers[to]], n)
		}
	}
	return from
}
