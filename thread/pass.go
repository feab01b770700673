package thread

import (
	"slices"

	"mortise/api"
)

// passed is what a pass makes of blocks.
func passed(blocks []chain) []chain {
	l := slices.Clone(blocks)
	goFarther(l)
	edges := countEdges(l)
	merge(l, edges)
	return renumbered(l, edges)
}

// goFarther lets each end go to final targets.
func goFarther(l []chain) {
	targets := finalTargets(l)
	for k := range l {
		e := &l[k].end
		lead(e, targets)
		if e.Kind == api.Branch && e.To == e.Else {
			*e = api.End{Kind: api.Jump, To: e.To}
		}
	}
}

// lead lets an end go, instead of to each block, to the one that stands for it in a list.
func lead(e *api.End, instead []int) {
	switch e.Kind {
	case api.Jump:
		e.To = instead[e.To]
	case api.Branch:
		e.To, e.Else = instead[e.To], instead[e.Else]
	}
}

// countEdges counts the edges to each block, and one more to block 0: a call begins there. No edge leads to a block that is unreachable, or removed.
func countEdges(l []chain) []int {
	edges := make([]int, len(l))
	var found []int // those whose ends are not counted yet
	add := func(at int) {
		if edges[at] == 0 {
			found = append(found, at)
		}
		edges[at]++
	}
	add(0)
	for len(found) > 0 {
		e := l[found[len(found)-1]].end
		found = found[:len(found)-1]
		switch e.Kind {
		case api.Jump:
			add(e.To)
		case api.Branch:
			add(e.To)
			add(e.Else)
		}
	}
	return edges
}

// merge appends to each block the one to which only it leads, by a Jump, as long as there is one. That is never block 0 or the block itself: another edge leads there.
func merge(l []chain, edges []int) {
	for k := range l {
		if edges[k] == 0 {
			continue
		}
		for c := &l[k]; c.end.Kind == api.Jump && edges[c.end.To] == 1; {
			to := c.end.To
			c.add(l[to])
			edges[to] = 0
		}
	}
}

// renumbered are the blocks to which edges lead, with numbers of their own.
func renumbered(l []chain, edges []int) []chain {
	numbers := make([]int, len(l))
	var kept []chain
	for k, c := range l {
		numbers[k] = len(kept)
		if edges[k] > 0 {
			kept = append(kept, c)
		}
	}
	for k := range kept {
		lead(&kept[k].end, numbers)
	}
	return kept
}
