package sem

import (
	"mortise/api"
	"mortise/course"
	"mortise/word"
)

// machine runs a program: its plan, and how far it has come.
type machine struct {
	plan
	course.Course
	memory [][]int // the globals' elements: a scalar has one
}

// frame is an open call: its function, its variables, and what it returns.
type frame struct {
	function  int
	variables []int
	result    int
}

func newMachine(p api.Program, input []int, steps int) machine {
	m := machine{plan: newPlan(p), Course: course.New(input, steps)}
	for _, g := range p.Globals {
		if g.Size > api.MaxData {
			panic("an array that no text has")
		}
		m.memory = append(m.memory, make([]int, max(g.Size, 1)))
	}
	return m
}

// call is what a call of a function returns.
func (m *machine) call(function int, arguments []int) int {
	m.Open()
	f := &m.functions[function]
	c := &frame{function: function, variables: make([]int, len(f.Vars))}
	copy(c.variables, arguments)
	for at := f.Body; at != end; {
		at = m.statement(c, at)
	}
	m.Close()
	return c.result
}

// statement runs a statement up to where another one has to begin, and tells which: a statement within it, its continuation, or whereto it jumps.
func (m *machine) statement(c *frame, at int) int {
	m.Step()
	n := &m.nodes[at]
	switch n.Op {
	case api.SBlock:
		if len(n.Kids) > 0 {
			return n.Kids[0]
		}
	case api.SIf:
		return m.branch(c, n, m.sites[at].next)
	case api.SWhile:
		if m.value(c, n.Kids[0]) != 0 {
			return n.Kids[1]
		}
	case api.SGoto:
		return m.labels[label{c.function, n.S}]
	case api.SLabel:
		return n.Kids[0]
	case api.SReturn:
		m.leave(c, n)
		return end
	default:
		m.act(c, n)
	}
	return m.sites[at].next
}

// branch is the statement that an if chooses.
func (m *machine) branch(c *frame, n *api.Node, next int) int {
	switch {
	case m.value(c, n.Kids[0]) != 0:
		return n.Kids[1]
	case len(n.Kids) > 2:
		return n.Kids[2]
	}
	return next
}

// leave makes a return's expression what the call returns.
func (m *machine) leave(c *frame, n *api.Node) {
	if len(n.Kids) > 0 {
		c.result = word.Wrap(m.functions[c.function].Type, m.value(c, n.Kids[0]))
	}
}

// act runs a statement that neither contains others nor jumps.
func (m *machine) act(c *frame, n *api.Node) {
	switch n.Op {
	case api.SLocal, api.SAssign:
		m.assign(c, n.Ref, m.value(c, n.Kids[0]))
	case api.SStore:
		i, v := m.value(c, n.Kids[0]), m.value(c, n.Kids[1])
		*m.element(n.Ref, i) = word.Wrap(m.globals[n.Ref].Type, v)
	case api.SOut:
		m.Write(m.value(c, n.Kids[0]))
	case api.SExpr:
		m.value(c, n.Kids[0])
	default:
		panic("a node that is no statement")
	}
}

// assign gives a variable, or a global scalar, a value of its type.
func (m *machine) assign(c *frame, ref, value int) {
	t := 0
	if ref >= 0 {
		t = m.functions[c.function].Vars[ref]
	} else {
		t = m.globals[-1-ref].Type
	}
	*m.place(c, ref) = word.Wrap(t, value)
}

// place is where the value of a variable, or a global scalar, stands.
func (m *machine) place(c *frame, ref int) *int {
	if ref >= 0 {
		return &c.variables[ref]
	}
	return &m.memory[-1-ref][0]
}

// element is where an array's element stands.
func (m *machine) element(array, i int) *int {
	l := m.memory[array]
	if i < 0 || i >= len(l) {
		course.Trap(api.TrapIndex)
	}
	return &l[i]
}
