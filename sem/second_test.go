package sem

import (
	"math/big"

	"mortise/api"
)

// A second reading of the chapter, by which package sem is held: functions become rows of small orders, gone through with a stack; continuations are what stands behind, jumps are places in the row, numbers are calculated by math/big.

// order is something that the second machine does.
type order struct {
	do      string
	kind, n int
	sign    string
}

// row is a function as orders.
type row struct {
	orders []order
	labels map[string]int
}

// writer turns functions into orders.
type writer struct {
	p        api.Program
	function api.Func
	row      row
}

func (w *writer) add(do string, kind, n int, sign string) int {
	w.row.orders = append(w.row.orders, order{do, kind, n, sign})
	return len(w.row.orders) - 1
}

// land makes the order at a place jump to here.
func (w *writer) land(at int) { w.row.orders[at].n = len(w.row.orders) }

func rowOf(p api.Program, f api.Func) row {
	w := &writer{p: p, function: f, row: row{labels: map[string]int{}}}
	w.statement(f.Body)
	w.add("number", 0, 0, "")
	w.add("return", 0, 0, "")
	return w.row
}

func (w *writer) statement(at int) {
	n := w.p.Nodes[at]
	if n.Op == api.SLabel {
		w.row.labels[n.S] = len(w.row.orders)
	}
	head := w.add("step", 0, 0, "")
	switch n.Op {
	case api.SBlock, api.SLabel:
		for _, k := range n.Kids {
			w.statement(k)
		}
	case api.SLocal, api.SAssign:
		w.value(n.Kids[0])
		w.name(n, "set")
	case api.SStore:
		w.value(n.Kids[0])
		w.value(n.Kids[1])
		w.add("store", w.p.Globals[n.Ref].Type, n.Ref, "")
	case api.SIf:
		w.value(n.Kids[0])
		other := w.add("unless", 0, 0, "")
		w.statement(n.Kids[1])
		if len(n.Kids) == 3 {
			behind := w.add("jump", 0, 0, "")
			w.land(other)
			w.statement(n.Kids[2])
			w.land(behind)
			return
		}
		w.land(other)
	case api.SWhile:
		w.value(n.Kids[0])
		behind := w.add("unless", 0, 0, "")
		w.statement(n.Kids[1])
		w.add("jump", 0, head, "")
		w.land(behind)
	case api.SGoto:
		w.add("goto", 0, 0, n.S)
	case api.SReturn:
		if len(n.Kids) == 0 {
			w.add("number", 0, 0, "")
		}
		for _, k := range n.Kids {
			w.value(k)
			w.add("wrap", w.function.Type, 0, "")
		}
		w.add("return", 0, 0, "")
	case api.SOut:
		w.value(n.Kids[0])
		w.add("out", 0, 0, "")
	case api.SExpr:
		w.value(n.Kids[0])
		w.add("drop", 0, 0, "")
	}
}

// name gets or sets what a node names, and tells its type.
func (w *writer) name(n api.Node, do string) int {
	if n.Ref < 0 {
		t := w.p.Globals[-1-n.Ref].Type
		w.add(do+" global", t, -1-n.Ref, "")
		return t
	}
	w.add(do, w.function.Vars[n.Ref], n.Ref, "")
	return w.function.Vars[n.Ref]
}

// value writes an expression, and tells its type, which is found without the node's.
func (w *writer) value(at int) int {
	w.add("step", 0, 0, "")
	n := w.p.Nodes[at]
	switch n.Op {
	case api.ENumber:
		w.add("number", 0, n.N, "")
		return n.Type
	case api.EName:
		return w.name(n, "get")
	case api.EIndex:
		w.value(n.Kids[0])
		w.add("load", 0, n.Ref, "")
		if w.p.Globals[n.Ref].Type != api.Long {
			return api.Int
		}
	case api.EUnary:
		return w.unary(n)
	case api.EBinary:
		return w.binary(n)
	case api.ECast:
		w.value(n.Kids[0])
		w.add("wrap", n.To, 0, "")
		if n.To != api.Long {
			return api.Int
		}
	case api.ECall:
		f := w.p.Funcs[n.Ref]
		for i, k := range n.Kids {
			w.value(k)
			w.add("wrap", f.Params[i].Type, 0, "")
		}
		w.add("call", 0, n.Ref, "")
		return f.Type
	case api.EIn:
		w.add("in", 0, 0, "")
	}
	return api.Long
}

func (w *writer) unary(n api.Node) int {
	t := w.value(n.Kids[0])
	switch n.S {
	case "-":
		w.add("negate", 0, 0, "")
	case "~": // -1 - n
		w.add("negate", 0, 0, "")
		w.add("number", 0, 1, "")
		w.add("bin", t, 0, "-")
	case "!":
		w.add("number", 0, 0, "")
		w.add("bin", api.Long, 0, "==")
		return api.Int
	}
	w.add("wrap", t, 0, "")
	return t
}

func (w *writer) binary(n api.Node) int {
	left := w.value(n.Kids[0])
	if n.S == "&&" || n.S == "||" {
		w.truth()
		w.add("same", 0, 0, "")
		short := w.add(map[string]string{"&&": "unless", "||": "if"}[n.S], 0, 0, "")
		w.add("drop", 0, 0, "")
		w.value(n.Kids[1])
		w.truth()
		w.land(short)
		return api.Int
	}
	right := w.value(n.Kids[1])
	t := left
	if n.S != "<<" && n.S != ">>" {
		t = max(left, right)
	}
	w.add("bin", t, 0, n.S)
	switch n.S {
	case "==", "!=", "<", "<=", ">", ">=":
		return api.Int
	}
	return t
}

func (w *writer) truth() {
	w.add("number", 0, 0, "")
	w.add("bin", api.Long, 0, "!=")
}

// second runs orders.
type second struct {
	p       api.Program
	rows    []row
	run     api.Run
	input   []int
	steps   int
	stack   []int
	globals [][]int
	open    []place
}

// place is an open call: where it stands, and its variables.
type place struct {
	row, at   int
	variables []int
}

// secondRun is the run of a program, by the second reading.
func secondRun(p api.Program, input []int, steps int) api.Run {
	s := &second{p: p, input: input, steps: steps}
	for _, g := range p.Globals {
		s.globals = append(s.globals, make([]int, g.Size+1))
	}
	main := 0
	for i, f := range p.Funcs {
		s.rows = append(s.rows, rowOf(p, f))
		if f.Name == "main" {
			main = i
		}
	}
	s.open = []place{{main, 0, make([]int, len(p.Funcs[main].Vars))}}
	for s.run.Status == 0 {
		here := &s.open[len(s.open)-1]
		here.at++
		s.do(s.rows[here.row].orders[here.at-1], here)
	}
	return s.run
}

func (s *second) end(status, code int) { s.run.Status, s.run.Code = status, code }

func (s *second) push(v int) { s.stack = append(s.stack, v) }

func (s *second) pop() int {
	v := s.stack[len(s.stack)-1]
	s.stack = s.stack[:len(s.stack)-1]
	return v
}

func (s *second) do(o order, here *place) {
	switch o.do {
	case "step":
		if s.steps--; s.steps < 0 {
			s.end(api.Going, 0)
		}
	case "number":
		s.push(o.n)
	case "get":
		s.push(here.variables[o.n])
	case "set":
		here.variables[o.n] = fit(o.kind, s.pop())
	case "get global":
		s.push(s.globals[o.n][0])
	case "set global":
		s.globals[o.n][0] = fit(o.kind, s.pop())
	case "load":
		if i := s.pop(); s.hasElement(o.n, i) {
			s.push(s.globals[o.n][i])
		}
	case "store":
		v, i := s.pop(), s.pop()
		if s.hasElement(o.n, i) {
			s.globals[o.n][i] = fit(o.kind, v)
		}
	case "wrap":
		s.push(fit(o.kind, s.pop()))
	case "negate":
		s.push(-s.pop())
	case "same":
		s.push(s.stack[len(s.stack)-1])
	case "drop":
		s.pop()
	case "bin":
		b, a := s.pop(), s.pop()
		s.bin(o.kind, o.sign, a, b)
	case "in":
		s.push(append(s.input, 0)[0])
		s.input = s.input[min(1, len(s.input)):]
	case "out":
		s.run.Out = append(s.run.Out, s.pop())
	default:
		s.jump(o, here)
	}
}

func (s *second) hasElement(array, i int) bool {
	ok := i >= 0 && i < s.p.Globals[array].Size
	if !ok {
		s.end(api.Trapped, 3)
	}
	return ok
}

// jump does what goes on elsewhere.
func (s *second) jump(o order, here *place) {
	switch o.do {
	case "jump":
		here.at = o.n
	case "unless":
		if s.pop() == 0 {
			here.at = o.n
		}
	case "if":
		if s.pop() != 0 {
			here.at = o.n
		}
	case "goto":
		here.at = s.rows[here.row].labels[o.sign]
	case "call":
		f := s.p.Funcs[o.n]
		variables := make([]int, len(f.Vars))
		for i := len(f.Params) - 1; i >= 0; i-- {
			variables[i] = s.pop()
		}
		if len(s.open) == 32 {
			s.end(api.Trapped, 4)
			return
		}
		s.open = append(s.open, place{o.n, 0, variables})
	case "return":
		s.open = s.open[:len(s.open)-1]
		if len(s.open) == 0 {
			s.end(api.Done, s.pop())
		}
	}
}

// fit is the number of a type that differs from v by a multiple of 2 to its bits; 0 for a type of none.
func fit(kind, v int) int {
	half := map[int]int{api.Char: 7, api.Int: 31, api.Long: 63}[kind]
	if half == 0 {
		return 0
	}
	n := big.NewInt(int64(v))
	middle := new(big.Int).Lsh(big.NewInt(1), uint(half))
	n.Add(n, middle).Mod(n, new(big.Int).Lsh(middle, 1)).Sub(n, middle)
	return int(n.Int64())
}

// bin does a binary sign's operation, by numbers of any size.
func (s *second) bin(kind int, sign string, a, b int) {
	a, b = fit(kind, a), fit(kind, b)
	x, y, z := big.NewInt(int64(a)), big.NewInt(int64(b)), new(big.Int)
	bits := 32
	if kind == api.Long {
		bits = 64
	}
	n := uint(((b % bits) + bits) % bits)
	switch sign {
	case "+":
		z.Add(x, y)
	case "-":
		z.Sub(x, y)
	case "*":
		z.Mul(x, y)
	case "&":
		z.And(x, y)
	case "|":
		z.Or(x, y)
	case "^":
		z.Xor(x, y)
	case "<<":
		z.Lsh(x, n)
	case ">>":
		z.Rsh(x, n)
	case "/", "%":
		if b == 0 {
			s.end(api.Trapped, 1)
			return
		}
		rest := new(big.Int)
		z.QuoRem(x, y, rest)
		if sign == "%" {
			z = rest
		} else if z.BitLen() == bits && z.Sign() > 0 {
			s.end(api.Trapped, 2)
			return
		}
	default:
		ok := map[string]bool{"==": a == b, "!=": a != b, "<": a < b, "<=": a <= b, ">": a > b, ">=": a >= b}[sign]
		if ok {
			z.SetInt64(1)
		}
	}
	half := uint(bits - 1)
	middle := new(big.Int).Lsh(big.NewInt(1), half)
	z.Add(z, middle).Mod(z, new(big.Int).Lsh(middle, 1)).Sub(z, middle)
	s.push(int(z.Int64()))
}
