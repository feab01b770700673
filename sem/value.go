package sem

import (
	"mortise/api"
	"mortise/course"
	"mortise/word"
)

// value evaluates an expression.
func (m *machine) value(c *frame, at int) int {
	m.Step()
	n := &m.nodes[at]
	switch n.Op {
	case api.ENumber:
		return n.N
	case api.EName:
		return *m.place(c, n.Ref)
	case api.EIndex:
		return *m.element(n.Ref, m.value(c, n.Kids[0]))
	case api.EUnary:
		return unary(n, m.value(c, n.Kids[0]))
	case api.EBinary:
		return m.binary(c, n)
	case api.ECast:
		return word.Wrap(n.To, m.value(c, n.Kids[0]))
	case api.ECall:
		return m.call(n.Ref, m.arguments(c, n))
	case api.EIn:
		return m.Read()
	}
	panic("a node that is no expression")
}

// arguments are a call's arguments, as its parameters take them.
func (m *machine) arguments(c *frame, n *api.Node) []int {
	l := make([]int, len(n.Kids))
	for i, k := range n.Kids {
		l[i] = word.Wrap(m.functions[n.Ref].Params[i].Type, m.value(c, k))
	}
	return l
}

// unary is what a sign makes of the value of its kid.
func unary(n *api.Node, v int) int {
	switch n.S {
	case "-":
		return course.Bin(n.Type, "-", 0, v)
	case "~":
		return course.Bin(n.Type, "^", v, -1)
	}
	return truth(v == 0)
}

// binary evaluates the kids of a binary sign, as far as it needs them, and is what it makes of them.
func (m *machine) binary(c *frame, n *api.Node) int {
	left := m.value(c, n.Kids[0])
	isAnd, isOr := n.S == "&&", n.S == "||"
	if isAnd && left == 0 || isOr && left != 0 {
		return truth(isOr)
	}
	right := m.value(c, n.Kids[1])
	if isAnd || isOr {
		return truth(right != 0)
	}
	return course.Bin(m.signType(n), n.S, left, right)
}

func truth(holds bool) int {
	if holds {
		return 1
	}
	return 0
}
