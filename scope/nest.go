package scope

import (
	"slices"

	"mortise/api"
	"mortise/dom"
)

// mark tells what may be branched to by a list: the loop of a header, or what follows the list, a join; the zero mark: nothing.
type mark struct{ op, block int }

// open is a list that has not ended.
type open struct {
	mark
	items []Item
}

// nest is the lists of a function: those that have ended, and those that have not, each of which is around the next one.
type nest struct {
	blocks []api.Block
	known  plan
	around []open
	ended  [][]Item
}

// list begins a list and ends it when its contents are there; it is the list's number.
func (n *nest) list(m mark, contents func()) int {
	n.around = append(n.around, open{mark: m})
	contents()
	last := len(n.around) - 1
	n.ended = append(n.ended, n.around[last].items)
	n.around = n.around[:last]
	return len(n.ended) - 1
}

// add adds an item to the innermost list.
func (n *nest) add(i Item) {
	l := &n.around[len(n.around)-1].items
	*l = append(*l, i)
}

// block adds the items of a block.
func (n *nest) block(at int) {
	f := n.known[at]
	if !f.isHeader {
		n.within(at, f.joins)
		return
	}
	body := n.list(mark{OLoop, at}, func() { n.within(at, f.joins) })
	n.add(Item{Op: OLoop, Body: body})
}

// within adds a block within some joins.
func (n *nest) within(at int, joins []int) {
	if len(joins) == 0 {
		n.add(Item{Op: OCode, Block: at})
		n.end(at)
		return
	}
	others, last := joins[:len(joins)-1], joins[len(joins)-1]
	body := n.list(mark{OBlock, last}, func() { n.within(at, others) })
	n.add(Item{Op: OBlock, Body: body})
	n.block(last)
}

// end adds the items of a block's end.
func (n *nest) end(at int) {
	e := n.blocks[at].End
	tos := dom.Tos(e)
	switch {
	case e.Kind == api.Return:
		n.add(Item{Op: OReturn, A: e.A})
	case len(tos) == 1:
		n.edge(at, tos[0])
	case len(tos) == 2:
		body := n.list(mark{}, func() { n.edge(at, tos[0]) })
		other := n.list(mark{}, func() { n.edge(at, tos[1]) })
		n.add(Item{Op: OIf, A: e.A, Body: body, Other: other})
	}
}

// edge adds the items of an edge.
func (n *nest) edge(from, to int) {
	switch {
	case n.known.isBack(from, to):
		n.branch(mark{OLoop, to})
	case n.known[to].isJoin():
		n.branch(mark{OBlock, to})
	default:
		n.block(to)
	}
}

// branch adds an OBr to the list around it that has a mark.
func (n *nest) branch(m mark) {
	for k, l := range slices.Backward(n.around) {
		if l.mark == m {
			n.add(Item{Op: OBr, N: len(n.around) - 1 - k})
			return
		}
	}
}
