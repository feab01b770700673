package thread

import "slices"

// finalTargets are the final targets of all blocks.
func finalTargets(l []chain) []int {
	targets := make([]int, len(l))
	for k := range l {
		targets[k] = finalTarget(l, k)
	}
	return targets
}

// finalTarget is the final target of a block.
func finalTarget(l []chain, at int) int {
	var way []int            // the bare blocks that were visited
	visited := map[int]int{} // where they stand on the way
	for l[at].isBare() {
		if from, isCycle := visited[at]; isCycle {
			return slices.Min(way[from:])
		}
		visited[at] = len(way)
		way = append(way, at)
		at = l[at].end.To
	}
	return at
}
