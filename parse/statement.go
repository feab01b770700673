package parse

import "mortise/api"

// statements are the ways to read a statement, by the word or sign with which it begins.
func statements() map[string]func(r *reader, depth int) int {
	return map[string]func(r *reader, depth int) int{
		"{":      (*reader).block,
		"int":    (*reader).local,
		"long":   (*reader).local,
		"if":     (*reader).branch,
		"while":  (*reader).loop,
		"goto":   (*reader).jump,
		"return": (*reader).leave,
		"out":    (*reader).output,
	}
}

// statement reads a statement of a depth, as each of the functions below does, and tells its node.
func (r *reader) statement(depth int) int {
	r.enter(depth)
	if isName(r.peek()) {
		return r.named(depth)
	}
	read, ok := r.statements[quoted(r.peek())]
	if !ok {
		panic(r.wrong(api.ErrForm))
	}
	return read(r, depth)
}

func (r *reader) block(depth int) int {
	n := api.Node{Op: api.SBlock, At: r.peek().At}
	r.expect("{")
	for !r.accept("}") {
		n.Kids = append(n.Kids, r.statement(depth+1))
	}
	return r.add(n)
}

func (r *reader) local(depth int) int {
	n := api.Node{Op: api.SLocal, At: r.peek().At}
	n.To = r.typed(api.Int, api.Long)
	n.S = r.name().S
	r.expect("=")
	n.Kids = []int{r.expression(depth + 1)}
	r.expect(";")
	return r.add(n)
}

func (r *reader) branch(depth int) int {
	n := api.Node{Op: api.SIf, At: r.next().At}
	n.Kids = r.guarded(depth)
	if r.accept("else") {
		n.Kids = append(n.Kids, r.statement(depth+1))
	}
	return r.add(n)
}

func (r *reader) loop(depth int) int {
	n := api.Node{Op: api.SWhile, At: r.next().At}
	n.Kids = r.guarded(depth)
	return r.add(n)
}

// guarded reads a condition in parentheses and a statement, the two kids of a statement of that depth.
func (r *reader) guarded(depth int) []int {
	r.expect("(")
	condition := r.expression(depth + 1)
	r.expect(")")
	return []int{condition, r.statement(depth + 1)}
}

func (r *reader) jump(depth int) int {
	n := api.Node{Op: api.SGoto, At: r.next().At}
	n.S = r.name().S
	r.expect(";")
	return r.add(n)
}

func (r *reader) leave(depth int) int {
	n := api.Node{Op: api.SReturn, At: r.next().At}
	if !r.is(";") {
		n.Kids = []int{r.expression(depth + 1)}
	}
	r.expect(";")
	return r.add(n)
}

func (r *reader) output(depth int) int {
	n := api.Node{Op: api.SOut, At: r.next().At}
	r.expect("(")
	n.Kids = []int{r.expression(depth + 1)}
	r.expect(")", ";")
	return r.add(n)
}

// named reads a statement that begins with a name: what stands behind it tells which.
func (r *reader) named(depth int) int {
	name := r.name()
	n := api.Node{At: name.At, S: name.S}
	switch quoted(r.peek()) {
	case "=":
		r.next()
		n.Op, n.Kids = api.SAssign, []int{r.expression(depth + 1)}
		r.expect(";")
	case "[":
		n.Op, n.Kids = api.SStore, r.stored(depth)
	case "(":
		n = api.Node{Op: api.SExpr, At: name.At, Kids: []int{r.call(name, depth+1)}}
		r.expect(";")
	case ":":
		r.next()
		n.Op, n.Kids = api.SLabel, []int{r.statement(depth + 1)}
	default:
		panic(r.wrong(api.ErrForm))
	}
	return r.add(n)
}

// stored reads what stands behind the name of an array: the place and the value, the two kids of a store of that depth.
func (r *reader) stored(depth int) []int {
	r.expect("[")
	place := r.expression(depth + 1)
	r.expect("]", "=")
	value := r.expression(depth + 1)
	r.expect(";")
	return []int{place, value}
}
