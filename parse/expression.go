package parse

import "mortise/api"

// expression reads an expression whose operands have that depth, and tells its node, as each of the functions below does.
func (r *reader) expression(depth int) int { return r.binary(depth, 1) }

// binary reads operands, with binary signs of that level or higher ones between them.
func (r *reader) binary(depth, least int) int {
	left := r.operand(depth)
	for {
		tight := level(quoted(r.peek()))
		if tight < least {
			return left
		}
		sign := r.next()
		right := r.binary(depth, tight+1) // signs of the same level are grouped from the left
		left = r.add(api.Node{Op: api.EBinary, At: sign.At, S: sign.S, Kids: []int{left, right}})
	}
}

// level is how tightly a binary sign binds, from 1 on; 0 for every other text.
func level(sign string) int {
	switch sign {
	case "||":
		return 1
	case "&&":
		return 2
	case "|":
		return 3
	case "^":
		return 4
	case "&":
		return 5
	case "==", "!=":
		return 6
	case "<", "<=", ">", ">=":
		return 7
	case "<<", ">>":
		return 8
	case "+", "-":
		return 9
	case "*", "/", "%":
		return 10
	}
	return 0
}

func (r *reader) operand(depth int) int {
	r.enter(depth)
	t := r.peek()
	switch {
	case t.Kind == api.TNumber:
		return r.number()
	case isName(t):
		return r.variable(depth)
	}
	switch quoted(t) {
	case "-", "~", "!":
		sign := r.next()
		return r.add(api.Node{Op: api.EUnary, At: sign.At, S: sign.S, Kids: []int{r.operand(depth + 1)}})
	case "(":
		return r.enclosed(depth)
	case "in":
		r.expect("in", "(", ")")
		return r.add(api.Node{Op: api.EIn, At: t.At})
	}
	panic(r.wrong(api.ErrForm))
}

func (r *reader) number() int {
	t := r.next()
	n := api.Node{Op: api.ENumber, At: t.At, N: t.N, Type: api.Int}
	if t.S == "L" {
		n.Type = api.Long
	}
	return r.add(n)
}

// variable reads an operand that begins with a name.
func (r *reader) variable(depth int) int {
	name := r.name()
	switch quoted(r.peek()) {
	case "(":
		return r.call(name, depth+1)
	case "[":
		return r.element(name, depth+1)
	}
	return r.add(api.Node{Op: api.EName, At: name.At, S: name.S})
}

// element reads the index, whose operands have that depth, of an array.
func (r *reader) element(array api.Token, depth int) int {
	r.expect("[")
	n := api.Node{Op: api.EIndex, At: array.At, S: array.S, Kids: []int{r.expression(depth)}}
	r.expect("]")
	return r.add(n)
}

// call reads the arguments, whose operands have that depth, of a function.
func (r *reader) call(function api.Token, depth int) int {
	r.expect("(")
	n := api.Node{Op: api.ECall, At: function.At, S: function.S}
	if !r.is(")") {
		n.Kids = r.arguments(depth)
	}
	r.expect(")")
	return r.add(n)
}

func (r *reader) arguments(depth int) []int {
	l := []int{r.expression(depth)}
	for r.accept(",") {
		l = append(l, r.expression(depth))
	}
	return l
}

// enclosed reads an operand of that depth that begins with a parenthesis: a cast, or an expression, which gets no node of its own.
func (r *reader) enclosed(depth int) int {
	at := r.next().At
	if kind, ok := typeNamed(quoted(r.peek())); ok && kind != api.Void {
		r.next()
		r.expect(")")
		return r.add(api.Node{Op: api.ECast, At: at, To: kind, Kids: []int{r.operand(depth + 1)}})
	}
	e := r.expression(depth + 1)
	r.expect(")")
	return e
}
