package check

import (
	"slices"

	"mortise/api"
)

// expression checks an expression whose kids have their types, and gives it its own.
func (c *checker) expression(n *api.Node) {
	switch n.Op {
	case api.EName:
		n.Type = c.refer(n, variable, scalar)
	case api.EIndex:
		n.Type = c.refer(n, array)
		c.mustBeValues(n, n.Kids...)
	case api.EUnary:
		c.mustBeValues(n, n.Kids...)
		n.Type = intOrLong(n.S != "!" && c.isLong(n.Kids[0]))
	case api.EBinary:
		c.mustBeValues(n, n.Kids...)
		n.Type = intOrLong(c.isLongBinary(n))
	case api.ECast:
		c.mustBeValues(n, n.Kids...)
		n.Type = intOrLong(n.To == api.Long)
	case api.ECall:
		n.Type = c.refer(n, function)
		refuse(len(n.Kids) != len(c.program.Funcs[n.Ref].Params), api.ErrArgs, n.At)
		c.mustBeValues(n, n.Kids...)
	case api.EIn:
		n.Type = api.Long
	}
}

// isLongBinary tells whether what a binary sign makes of two values is long.
func (c *checker) isLongBinary(n *api.Node) bool {
	left, right := c.isLong(n.Kids[0]), c.isLong(n.Kids[1])
	switch n.S {
	case "==", "!=", "<", "<=", ">", ">=", "&&", "||":
		return false
	case "<<", ">>":
		return left
	}
	return left || right
}

// statement checks a statement whose kids were checked.
func (c *checker) statement(n *api.Node) {
	switch n.Op {
	case api.SLocal:
		c.mustBeValues(n, n.Kids...)
		refuse(c.scopes.has(n.S), api.ErrTwice, n.At)
		refuse(len(c.function.Vars) >= api.MaxLocals, api.ErrMany, n.At)
		n.Ref = c.addVariable(n.S, n.To)
	case api.SAssign:
		c.refer(n, variable, scalar)
		c.mustBeValues(n, n.Kids...)
	case api.SStore:
		c.refer(n, array)
		c.mustBeValues(n, n.Kids...)
	case api.SIf, api.SWhile:
		c.mustBeValues(n, n.Kids[0])
	case api.SGoto:
		_, ok := c.labels[n.S]
		refuse(!ok, api.ErrLabel, n.At)
	case api.SReturn:
		refuse((len(n.Kids) > 0) == (c.function.Type == api.Void), api.ErrType, n.At)
		c.mustBeValues(n, n.Kids...)
	case api.SOut:
		c.mustBeValues(n, n.Kids...)
	}
}

// refer makes a node refer to what its name denotes, which must be of one of these sorts, and tells the type that an expression gets by it.
func (c *checker) refer(n *api.Node, sorts ...int) int {
	m, ok := c.scopes.find(n.S)
	refuse(!ok, api.ErrName, n.At)
	refuse(!slices.Contains(sorts, m.sort), api.ErrType, n.At)
	n.Ref = m.ref
	return m.value
}

// mustBeValues refuses a node one of whose kids has no value.
func (c *checker) mustBeValues(n *api.Node, kids ...int) {
	for _, k := range kids {
		t := c.program.Nodes[k].Type
		refuse(t != api.Int && t != api.Long, api.ErrType, n.At)
	}
}

func (c *checker) isLong(i int) bool { return c.program.Nodes[i].Type == api.Long }

func intOrLong(isLong bool) int {
	if isLong {
		return api.Long
	}
	return api.Int
}
