package sem

import (
	"slices"

	"mortise/api"
)

// end is where a function's Body goes on.
const end = -1

// maxNested is how many levels of nodes there may be, more than any text has; it keeps a run from filling the stack.
const maxNested = 1 << 13

// site is where a statement stands: in which function, and which statement is its continuation.
type site struct{ function, next int }

// label is a label's name, and the function that has it.
type label struct {
	function int
	name     string
}

// plan is a program, and where each of its statements goes on.
type plan struct {
	globals   []api.Global
	functions []api.Func
	nodes     []api.Node
	sites     []site        // of the nodes that are statements
	labels    map[label]int // the nodes of the labels
}

func newPlan(p api.Program) plan {
	mustBeTrees(p.Nodes)
	out := plan{p.Globals, p.Funcs, p.Nodes, make([]site, len(p.Nodes)), map[label]int{}}
	for i, f := range p.Funcs {
		out.sites[f.Body] = site{i, end}
	}
	for i := len(p.Nodes) - 1; i >= 0; i-- { // so a statement's own site is known ahead of those within it
		out.placeKids(i)
	}
	return out
}

// mustBeTrees panics if a kid does not come before its parent, or is nested too deep: to run nodes that no text has might not end.
func mustBeTrees(l []api.Node) {
	heights := make([]int, len(l))
	for i, n := range l {
		for _, k := range n.Kids {
			if k >= i || heights[k] >= maxNested {
				panic("nodes that no text has")
			}
			heights[i] = max(heights[i], heights[k]+1)
		}
	}
}

// placeKids finds the sites of the statements within a statement.
func (p *plan) placeKids(i int) {
	n, here := &p.nodes[i], p.sites[i]
	switch n.Op {
	case api.SBlock:
		for _, k := range slices.Backward(n.Kids) {
			p.sites[k] = here
			here.next = k
		}
	case api.SIf:
		for _, k := range n.Kids[1:] {
			p.sites[k] = here
		}
	case api.SWhile:
		p.sites[n.Kids[1]] = site{here.function, i}
	case api.SLabel:
		p.labels[label{here.function, n.S}] = i
		p.sites[n.Kids[0]] = here
	}
}

// functionOf is the function with a name.
func (p *plan) functionOf(name string) int {
	return slices.IndexFunc(p.functions, func(f api.Func) bool { return f.Name == name })
}

// signType is the type of which a binary sign's operation is.
func (p *plan) signType(n *api.Node) int {
	left, right := p.nodes[n.Kids[0]].Type, p.nodes[n.Kids[1]].Type
	if n.S == "<<" || n.S == ">>" || left == api.Long {
		return left
	}
	return right
}
