package lower

import "mortise/api"

// statement appends what a statement does.
func (b *builder) statement(i int) {
	n := &b.Nodes[i]
	switch n.Op {
	case api.SBlock:
		for _, k := range n.Kids {
			b.statement(k)
		}
	case api.SLocal, api.SAssign:
		b.assign(n)
	case api.SStore:
		b.store(n)
	case api.SIf:
		b.choose(n)
	case api.SWhile:
		b.repeat(n)
	case api.SGoto:
		b.jump(b.label(n.S))
		b.begin(&place{})
	case api.SLabel:
		here := b.label(n.S)
		b.jump(here)
		b.begin(here)
		b.statement(n.Kids[0])
	case api.SReturn:
		b.leave(b.returned(n))
		b.begin(&place{})
	case api.SOut:
		b.add(api.Instr{Op: api.IOut, A: b.convert(b.expression(n.Kids[0]), api.Long)})
	case api.SExpr:
		b.expression(n.Kids[0])
	default:
		panic("no statement")
	}
}

func (b *builder) assign(n *api.Node) {
	value := b.expression(n.Kids[0])
	if n.Ref >= 0 {
		value = b.convert(value, b.regs[n.Ref])
		b.add(api.Instr{Op: api.ICopy, Dst: n.Ref, A: value})
		return
	}
	scalar := -1 - n.Ref
	value = b.convert(value, b.Globals[scalar].Type)
	b.add(api.Instr{Op: api.ISet, N: scalar, A: value})
}

func (b *builder) store(n *api.Node) {
	index := b.expression(n.Kids[0])
	value := b.expression(n.Kids[1])
	index = b.convert(index, api.Long)
	value = b.convert(value, intOrLong(b.Globals[n.Ref].Type == api.Long))
	b.add(api.Instr{Op: api.IStore, N: n.Ref, A: index, B: value})
}

// choose appends an if.
func (b *builder) choose(n *api.Node) {
	yes, no, end := &place{}, &place{}, &place{}
	if len(n.Kids) < 3 {
		no = end
	}
	b.branch(b.truth(b.expression(n.Kids[0])), yes, no)
	b.begin(yes)
	b.statement(n.Kids[1])
	b.jump(end)
	if len(n.Kids) >= 3 {
		b.begin(no)
		b.statement(n.Kids[2])
		b.jump(end)
	}
	b.begin(end)
}

// repeat appends a while.
func (b *builder) repeat(n *api.Node) {
	head, body, end := &place{}, &place{}, &place{}
	b.jump(head)
	b.begin(head)
	b.branch(b.truth(b.expression(n.Kids[0])), body, end)
	b.begin(body)
	b.statement(n.Kids[1])
	b.jump(head)
	b.begin(end)
}

// returned is the register that a return returns.
func (b *builder) returned(n *api.Node) int {
	if len(n.Kids) == 0 {
		return noRegister
	}
	return b.convert(b.expression(n.Kids[0]), b.function.Type)
}
