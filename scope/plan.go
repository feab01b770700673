package scope

import (
	"mortise/api"
	"mortise/dom"
)

// facts are what is known about a reachable block.
type facts struct {
	place    int   // in the order
	earlier  int   // how many of the blocks before it lead to it
	isHeader bool  // a back edge leads to it
	joins    []int // the joins whose Dom it is, in the order
}

func (f facts) isJoin() bool { return f.earlier > 1 }

// plan is what is known about the reachable blocks of a function.
type plan map[int]facts

func newPlan(c api.Code) plan {
	p := plan{}
	order, doms := dom.Order(c), dom.Dom(c)
	for place, at := range order {
		p[at] = facts{place: place}
	}
	for _, at := range order {
		for _, to := range dom.Tos(c.Blocks[at].End) {
			p.addEdge(at, to)
		}
	}
	for _, at := range order {
		if p[at].isJoin() {
			f := p[doms[at]]
			f.joins = append(f.joins, at)
			p[doms[at]] = f
		}
	}
	return p
}

func (p plan) addEdge(from, to int) {
	f := p[to]
	if p.isBack(from, to) {
		f.isHeader = true
	} else {
		f.earlier++
	}
	p[to] = f
}

// isBack tells whether an edge from one block to another is a back edge.
func (p plan) isBack(from, to int) bool { return p[to].place <= p[from].place }
