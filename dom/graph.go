package dom

import "mortise/api"

// graph is how the blocks of a function lead to each other.
type graph struct {
	walk
	places []int // where each reachable block stands in the order
	doms   []int // what Dom is
}

func newGraph(ends []api.End) graph {
	g := graph{walk: newWalk(ends), places: make([]int, len(ends))}
	for place, at := range g.order {
		g.places[at] = place
	}
	g.doms = g.dominators()
	return g
}

// isBack tells whether an edge that leads from a reachable block to another one is a back edge.
func (g graph) isBack(from, to int) bool { return g.places[to] <= g.places[from] }

// dominates tells whether a reachable block dominates another one.
func (g graph) dominates(x, y int) bool {
	for g.places[y] > g.places[x] {
		y = g.doms[y]
	}
	return x == y
}

// wrongEdge is the first back edge, by the order of the blocks from which they lead, whose target does not dominate its source; -1 and -1 if there is none.
func (g graph) wrongEdge() (from, to int) {
	from, to = -1, -1
search:
	for _, at := range g.order {
		for _, next := range g.tos[at] {
			if g.isBack(at, next) && !g.dominates(next, at) {
				from, to = at, next
				break search
			}
		}
	}
	return from, to
}
