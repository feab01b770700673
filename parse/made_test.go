package parse

import (
	"math/rand"
	"slices"
	"strconv"
	"strings"

	"mortise/api"
)

// tree is a made statement or expression, with its kids in it.
type tree struct {
	op, n, kind int
	s           string
	kids        []*tree
}

// item is a made global, or a function if it has a body.
type item struct {
	kind, size int
	name       string
	params     []api.Param
	body       *tree
}

// maker makes programs by a source of numbers that is the same in each run.
type maker struct{ *rand.Rand }

func (m maker) pick(l ...string) string { return l[m.Intn(len(l))] }

func (m maker) name() string { return m.pick("a", "b", "x", "f", "t", "int_", "outs", "l", "_9") }

func (m maker) program(fuel int) []item {
	var l []item
	for range m.Intn(5) {
		if m.Intn(2) == 0 {
			l = append(l, m.global())
		} else {
			l = append(l, m.function(fuel))
		}
	}
	return l
}

func (m maker) global() item {
	g := item{kind: api.Int + m.Intn(3), name: m.name()}
	if g.kind == api.Char || m.Intn(2) == 0 {
		g.size = 1 + m.Intn(api.MaxArray)
	}
	return g
}

func (m maker) function(fuel int) item {
	f := item{kind: m.Intn(3), name: m.name(), body: m.block(fuel)}
	for range m.Intn(4) {
		f.params = append(f.params, api.Param{Name: m.name(), Type: api.Int + m.Intn(2)})
	}
	return f
}

func (m maker) block(fuel int) *tree {
	b := &tree{op: api.SBlock}
	for range m.Intn(5) {
		b.kids = append(b.kids, m.statement(fuel-1, false))
	}
	return b
}

// statement makes a statement; before an else it must be one that does not take that else for itself.
func (m maker) statement(fuel int, beforeElse bool) *tree {
	if fuel <= 0 {
		return m.shortStatement()
	}
	switch m.Intn(9) {
	case 0:
		return m.block(fuel)
	case 1:
		return &tree{op: api.SLabel, s: m.name(), kids: []*tree{m.statement(fuel-1, beforeElse)}}
	case 2:
		return &tree{op: api.SWhile, kids: []*tree{m.expression(fuel - 1), m.statement(fuel-1, beforeElse)}}
	case 3:
		return &tree{op: api.SIf, kids: []*tree{m.expression(fuel - 1), m.statement(fuel-1, true), m.statement(fuel-1, beforeElse)}}
	case 4:
		if !beforeElse {
			return &tree{op: api.SIf, kids: []*tree{m.expression(fuel - 1), m.statement(fuel-1, false)}}
		}
	case 5:
		return &tree{op: api.SLocal, kind: api.Int + m.Intn(2), s: m.name(), kids: []*tree{m.expression(fuel - 1)}}
	case 6:
		return &tree{op: api.SStore, s: m.name(), kids: []*tree{m.expression(fuel - 1), m.expression(fuel - 1)}}
	case 7:
		return &tree{op: api.SExpr, kids: []*tree{m.call(fuel)}}
	}
	return m.valueStatement(fuel)
}

func (m maker) valueStatement(fuel int) *tree {
	e := []*tree{m.expression(fuel - 1)}
	switch m.Intn(3) {
	case 0:
		return &tree{op: api.SReturn, kids: e}
	case 1:
		return &tree{op: api.SOut, kids: e}
	}
	return &tree{op: api.SAssign, s: m.name(), kids: e}
}

func (m maker) shortStatement() *tree {
	switch m.Intn(4) {
	case 0:
		return &tree{op: api.SGoto, s: m.name()}
	case 1:
		return &tree{op: api.SExpr, kids: []*tree{{op: api.ECall, s: m.name()}}}
	case 2:
		return &tree{op: api.SBlock}
	}
	return &tree{op: api.SReturn}
}

func (m maker) call(fuel int) *tree {
	c := &tree{op: api.ECall, s: m.name()}
	for range m.Intn(4) {
		c.kids = append(c.kids, m.expression(fuel-1))
	}
	return c
}

func (m maker) expression(fuel int) *tree {
	if fuel <= 0 {
		return m.shortExpression()
	}
	switch m.Intn(9) {
	case 0, 1, 2, 3:
		l := slices.Concat(levels()...)
		return &tree{op: api.EBinary, s: m.pick(l...), kids: []*tree{m.expression(fuel - 1), m.expression(fuel - 1)}}
	case 4:
		return &tree{op: api.EUnary, s: m.pick("-", "~", "!"), kids: []*tree{m.expression(fuel - 1)}}
	case 5:
		return &tree{op: api.ECast, kind: api.Int + m.Intn(3), kids: []*tree{m.expression(fuel - 1)}}
	case 6:
		return &tree{op: api.EIndex, s: m.name(), kids: []*tree{m.expression(fuel - 1)}}
	case 7:
		return m.call(fuel)
	}
	return m.shortExpression()
}

func (m maker) shortExpression() *tree {
	switch m.Intn(4) {
	case 0:
		return &tree{op: api.EName, s: m.name()}
	case 1:
		return &tree{op: api.EIn}
	case 2:
		return &tree{op: api.ENumber, n: m.Intn(1 << 31), kind: api.Int}
	}
	return &tree{op: api.ENumber, n: m.Int(), kind: api.Long}
}

// drawn is a drawing of made items: their text, the program that it has, and the first error that the limits ask for.
type drawn struct {
	m         maker
	loose     bool // with more blanks, comments and parentheses than there must be
	text      strings.Builder
	lineBegun bool
	ready     bool // the blanks ahead of the next token are there
	program   api.Program
	wrong     api.Diag
}

// draw draws items in their order.
func draw(m maker, l []item, loose bool) *drawn {
	d := &drawn{m: m, loose: loose}
	for _, x := range l {
		if x.body == nil {
			d.global(x)
		} else {
			d.function(x)
		}
		d.text.WriteByte('\n')
		d.lineBegun, d.ready = false, false
	}
	return d
}

// at is where the next token begins.
func (d *drawn) at() int {
	if !d.ready && d.lineBegun {
		d.text.WriteByte(' ')
		if d.loose && d.m.Intn(8) == 0 {
			d.text.WriteString(d.m.pick(" ", "\n", "// else (\n", "//\n\n  "))
		}
	}
	d.ready = true
	return d.text.Len()
}

func (d *drawn) token(s string) int {
	at := d.at()
	d.text.WriteString(s)
	d.lineBegun, d.ready = true, false
	return at
}

func (d *drawn) fail(no api.Errno, at int) {
	if d.wrong.No == api.OK {
		d.wrong = api.Diag{No: no, At: at}
	}
}

func (d *drawn) finish(n api.Node) int {
	if len(d.program.Nodes) >= 4000 {
		d.fail(api.ErrMany, n.At)
	}
	d.program.Nodes = append(d.program.Nodes, n)
	return len(d.program.Nodes) - 1
}

func kindName(kind int) string { return []string{"void", "int", "long", "char"}[kind] }

func (d *drawn) global(x item) {
	d.token(kindName(x.kind))
	g := api.Global{Name: x.name, Type: x.kind, Size: x.size, At: d.token(x.name)}
	if x.size != 0 {
		d.token("[")
		if at := d.token(strconv.Itoa(x.size)); x.size > 1024 {
			d.fail(api.ErrRange, at)
		}
		d.token("]")
	}
	d.token(";")
	d.program.Globals = append(d.program.Globals, g)
}

func (d *drawn) function(x item) {
	d.token(kindName(x.kind))
	f := api.Func{Name: x.name, Type: x.kind, Params: x.params, At: d.token(x.name)}
	d.token("(")
	for i, p := range x.params {
		if i > 0 {
			d.token(",")
		}
		d.token(kindName(p.Type))
		d.token(p.Name)
	}
	d.token(")")
	f.Body = d.statement(x.body, 1)
	d.program.Funcs = append(d.program.Funcs, f)
}

func (d *drawn) enter(depth int) {
	if depth > 40 {
		d.fail(api.ErrDeep, d.at())
	}
}

func (d *drawn) statement(t *tree, depth int) int {
	d.enter(depth)
	n := api.Node{Op: t.op, At: d.at(), S: t.s, To: t.kind}
	kid := func(i int) { n.Kids = append(n.Kids, d.statement(t.kids[i], depth+1)) }
	value := func(i int) { n.Kids = append(n.Kids, d.expression(t.kids[i], depth+1, 1)) }
	switch t.op {
	case api.SBlock:
		d.token("{")
		for i := range t.kids {
			kid(i)
		}
		d.token("}")
	case api.SLabel:
		d.token(t.s)
		d.token(":")
		kid(0)
	case api.SIf, api.SWhile:
		d.token(map[int]string{api.SIf: "if", api.SWhile: "while"}[t.op])
		d.token("(")
		value(0)
		d.token(")")
		kid(1)
		if len(t.kids) > 2 {
			d.token("else")
			kid(2)
		}
	case api.SGoto:
		d.token("goto")
		d.token(t.s)
		d.token(";")
	case api.SExpr:
		n.Kids = []int{d.call(t.kids[0], depth+1)}
		d.token(";")
	default:
		d.valueStatement(t, value)
	}
	return d.finish(n)
}

func (d *drawn) valueStatement(t *tree, value func(int)) {
	switch t.op {
	case api.SLocal:
		d.token(kindName(t.kind))
		fallthrough
	case api.SAssign:
		d.token(t.s)
		d.token("=")
		value(0)
	case api.SStore:
		d.token(t.s)
		d.token("[")
		value(0)
		d.token("]")
		d.token("=")
		value(1)
	case api.SReturn:
		d.token("return")
		if len(t.kids) > 0 {
			value(0)
		}
	case api.SOut:
		d.token("out")
		d.token("(")
		value(0)
		d.token(")")
	}
	d.token(";")
}

func (d *drawn) call(t *tree, depth int) int {
	n := api.Node{Op: api.ECall, S: t.s, At: d.token(t.s)}
	d.token("(")
	for i, k := range t.kids {
		if i > 0 {
			d.token(",")
		}
		n.Kids = append(n.Kids, d.expression(k, depth, 1))
	}
	d.token(")")
	return d.finish(n)
}

// levelOf is a binary sign's level.
func levelOf(s string) int {
	return 1 + slices.IndexFunc(levels(), func(l []string) bool { return slices.Contains(l, s) })
}

// expression draws an expression where signs below a level would be read otherwise.
func (d *drawn) expression(t *tree, depth, least int) int {
	isBinary := t.op == api.EBinary
	if isBinary && levelOf(t.s) < least || d.loose && d.m.Intn(9) == 0 {
		d.enter(depth)
		d.token("(")
		i := d.expression(t, depth+1, 1)
		d.token(")")
		return i
	}
	if isBinary {
		level := levelOf(t.s)
		left := d.expression(t.kids[0], depth, level)
		at := d.token(t.s)
		right := d.expression(t.kids[1], depth, level+1)
		return d.finish(api.Node{Op: api.EBinary, At: at, S: t.s, Kids: []int{left, right}})
	}
	d.enter(depth)
	return d.operand(t, depth)
}

func (d *drawn) operand(t *tree, depth int) int {
	n := api.Node{Op: t.op, At: d.at(), S: t.s, N: t.n}
	switch t.op {
	case api.ENumber:
		n.Type = t.kind
		d.token(strconv.Itoa(t.n) + map[int]string{api.Long: "L"}[t.kind])
	case api.EName:
		d.token(t.s)
	case api.EIndex:
		d.token(t.s)
		d.token("[")
		n.Kids = []int{d.expression(t.kids[0], depth+1, 1)}
		d.token("]")
	case api.EUnary:
		d.token(t.s)
		n.Kids = []int{d.expression(t.kids[0], depth+1, 11)}
	case api.ECast:
		d.token("(")
		d.token(kindName(t.kind))
		d.token(")")
		n.To = t.kind
		n.Kids = []int{d.expression(t.kids[0], depth+1, 11)}
	case api.ECall:
		return d.call(t, depth+1)
	case api.EIn:
		d.token("in")
		d.token("(")
		d.token(")")
	}
	return d.finish(n)
}
