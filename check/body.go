package check

import (
	"slices"

	"mortise/api"
)

// maxNested is how many levels of nesting there may be; it keeps the visit of nodes that no text has from filling the stack.
const maxNested = 1 << 16

// body checks the body of a function, in whose block the parameters are declared.
func (c *checker) body(f *api.Func) {
	c.function = f
	c.findLabels()
	c.scopes.open()
	for _, p := range f.Params {
		c.addVariable(p.Name, p.Type)
	}
	c.visitKids(f.Body, 1)
	c.scopes.close()
}

// findLabels finds the function's labels, ahead of all gotos.
func (c *checker) findLabels() {
	c.labels = map[string]int{}
	for _, i := range c.within(c.function.Body) {
		n := c.program.Nodes[i]
		if n.Op != api.SLabel {
			continue
		}
		_, ok := c.labels[n.S]
		refuse(ok, api.ErrTwice, n.At)
		c.labels[n.S] = i
	}
}

// within are a node and all nodes below it, in ascending order.
func (c *checker) within(root int) []int {
	l := []int{c.claim(root)}
	for i := 0; i < len(l); i++ { // the list grows as it is gone through
		for _, k := range c.program.Nodes[l[i]].Kids {
			l = append(l, c.claim(k))
		}
	}
	slices.Sort(l)
	return l
}

// claim is a node that may not stand anywhere else: only nodes that no text has could do so, and to visit them might not end.
func (c *checker) claim(i int) int {
	if c.seen[i] {
		panic("a node in two places")
	}
	c.seen[i] = true
	return i
}

// visit checks the nodes below a node, and then itself.
func (c *checker) visit(i, depth int) {
	if depth > maxNested {
		panic("nodes nested too deep")
	}
	n := &c.program.Nodes[i]
	if n.Op == api.SBlock {
		c.scopes.open()
		c.visitKids(i, depth)
		c.scopes.close()
		return
	}
	c.visitKids(i, depth)
	if n.Op < api.SBlock {
		c.expression(n)
	} else {
		c.statement(n)
	}
}

func (c *checker) visitKids(i, depth int) {
	for _, k := range c.program.Nodes[i].Kids {
		c.visit(k, depth+1)
	}
}

// addVariable declares a variable in the innermost block, and tells its number.
func (c *checker) addVariable(name string, t int) int {
	number := len(c.function.Vars)
	c.function.Vars = append(c.function.Vars, t)
	c.scopes.declare(name, meaning{sort: variable, ref: number, value: t})
	return number
}
