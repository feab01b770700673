package lower

import (
	"strings"

	"mortise/api"
)

// expression appends what an expression does, and is its register.
func (b *builder) expression(i int) int {
	n := &b.Nodes[i]
	switch n.Op {
	case api.ENumber:
		return b.number(n.Type, n.N)
	case api.EName:
		return b.name(n)
	case api.EIndex:
		index := b.convert(b.expression(n.Kids[0]), api.Long)
		return b.made(n.Type, api.Instr{Op: api.ILoad, A: index, N: n.Ref})
	case api.EUnary:
		return b.unary(n)
	case api.EBinary:
		if n.S == "&&" || n.S == "||" {
			return b.choice(n)
		}
		return b.binary(n)
	case api.ECast:
		return b.convert(b.expression(n.Kids[0]), n.To)
	case api.ECall:
		return b.call(n)
	case api.EIn:
		return b.made(api.Long, api.Instr{Op: api.IIn})
	}
	panic("no expression")
}

// name is a variable itself, or a new register with a global's value.
func (b *builder) name(n *api.Node) int {
	if n.Ref >= 0 {
		return n.Ref
	}
	return b.made(n.Type, api.Instr{Op: api.IGet, N: -1 - n.Ref})
}

func (b *builder) unary(n *api.Node) int {
	kid := b.expression(n.Kids[0])
	switch n.S {
	case "-":
		zero := b.number(n.Type, 0)
		return b.made(n.Type, api.Instr{Op: api.IBin, Type: n.Type, S: "-", A: zero, B: kid})
	case "~":
		ones := b.number(n.Type, -1)
		return b.made(n.Type, api.Instr{Op: api.IBin, Type: n.Type, S: "^", A: kid, B: ones})
	}
	t := b.Nodes[n.Kids[0]].Type
	zero := b.number(t, 0)
	return b.made(api.Int, api.Instr{Op: api.IBin, Type: t, S: "==", A: kid, B: zero})
}

func (b *builder) binary(n *api.Node) int {
	t := b.operandsType(n)
	left := b.expression(n.Kids[0])
	right := b.expression(n.Kids[1])
	left = b.convert(left, t)
	right = b.convert(right, t)
	return b.made(n.Type, api.Instr{Op: api.IBin, Type: t, S: strings.Clone(n.S), A: left, B: right})
}

// operandsType is the type in which a binary sign's operation is done.
func (b *builder) operandsType(n *api.Node) int {
	left, right := b.Nodes[n.Kids[0]].Type, b.Nodes[n.Kids[1]].Type
	if n.S == "<<" || n.S == ">>" {
		return left
	}
	return intOrLong(left == api.Long || right == api.Long)
}

func (b *builder) call(n *api.Node) int {
	f := &b.Funcs[n.Ref]
	var args []int
	for i, k := range n.Kids {
		args = append(args, b.convert(b.expression(k), f.Params[i].Type))
	}
	i := api.Instr{Op: api.ICall, N: n.Ref, Args: args}
	if f.Type != api.Void {
		return b.made(f.Type, i)
	}
	i.Dst = noRegister
	b.add(i)
	return noRegister
}

// choice is && or ||, whose right kid counts only if the left one does not tell the truth already.
func (b *builder) choice(n *api.Node) int {
	result := b.register(api.Int)
	right, short, end := &place{}, &place{}, &place{}
	left := b.truth(b.expression(n.Kids[0]))
	known := 0
	if n.S == "&&" {
		b.branch(left, right, short)
	} else {
		b.branch(left, short, right)
		known = 1
	}
	b.begin(right)
	c := b.truth(b.expression(n.Kids[1]))
	zero := b.number(api.Int, 0)
	b.add(api.Instr{Op: api.IBin, Type: api.Int, Dst: result, S: "!=", A: c, B: zero})
	b.jump(end)
	b.begin(short)
	b.add(api.Instr{Op: api.IConst, Dst: result, N: known})
	b.jump(end)
	b.begin(end)
	return result
}
