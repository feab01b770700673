package sample

import (
	"slices"

	"mortise/api"
)

// add appends an instruction to the block that is built.
func (b *builder) add(i api.Instr) { b.code = append(b.code, i) }

// set makes a register a number.
func (b *builder) set(register, n int) { b.add(api.Instr{Op: api.IConst, Dst: register, N: n}) }

// read is a register of a type.
func (b *builder) read(t int) int {
	regs := b.function().Regs
	for {
		if at := b.below(len(regs)); regs[at] == t {
			return at
		}
	}
}

// write is a register of a type, but not the counter, by which runs end.
func (b *builder) write(t int) int {
	regs := b.function().Regs
	for {
		if at := b.below(len(regs) - 1); regs[at] == t {
			return at
		}
	}
}

// global is a global that is an array, or a scalar; -1 if it finds none.
func (b *builder) global(isArray bool) int {
	at := b.below(len(b.Globals))
	if (b.Globals[at].Size > 0) == isArray {
		return at
	}
	return slices.IndexFunc(b.Globals, func(g api.Global) bool { return (g.Size > 0) == isArray })
}

// heldAs is the type of a register that holds an element of a type.
func heldAs(t int) int {
	if t == api.Long {
		return api.Long
	}
	return api.Int
}

func (b *builder) instructions() {
	for range 1 + b.below(2+2*b.size) {
		b.instruction()
	}
}

func (b *builder) instruction() {
	t := b.number(api.Int, api.Long)
	switch k := b.below(26); {
	case k < 3:
		b.set(b.write(t), b.constant(t))
	case k < 6:
		b.add(api.Instr{Op: api.ICopy, Dst: b.write(t), A: b.read(t)})
	case k < 13:
		b.binary(t)
	case k < 15:
		to := b.number(api.Int, api.Long, api.Char)
		b.add(api.Instr{Op: api.IConv, Type: to, Dst: b.write(heldAs(to)), A: b.read(t)})
	case k < 18:
		b.element()
	case k < 20:
		b.scalar()
	case k < 22:
		b.call()
	case k < 23:
		b.add(api.Instr{Op: api.IIn, Dst: b.write(api.Long)})
	default:
		b.add(api.Instr{Op: api.IOut, A: b.read(api.Long)})
	}
}

// binary makes an operation; one that divides does it mostly by a number that isn't 0.
func (b *builder) binary(t int) {
	i := api.Instr{Op: api.IBin, Type: t, A: b.read(t), B: b.read(t)}
	i.S = b.pick("+", "-", "*", "/", "%", "&", "|", "^", "<<", ">>", "==", "!=", "<", "<=", ">", ">=")
	i.Dst = b.write(t)
	switch i.S {
	case "==", "!=", "<", "<=", ">", ">=":
		i.Dst = b.write(api.Int)
	case "/", "%":
		b.divisor(&i)
	}
	b.add(i)
}

// divisor sets what is divided by.
func (b *builder) divisor(i *api.Instr) {
	switch {
	case b.chance(8):
	case b.chance(15):
		i.A, i.B = b.write(i.Type), b.write(i.Type)
		b.set(i.B, -1)
		b.set(i.A, least(i.Type))
	default:
		i.B = b.write(i.Type)
		b.set(i.B, b.number(1, 2, 3, 7, -1, -3))
	}
}

// least is the least number of a type.
func least(t int) int {
	if t == api.Int {
		return -1 << 31
	}
	return -1 << 63
}

// element loads or stores an element, mostly one that is there.
func (b *builder) element() {
	array := b.global(true)
	if array < 0 {
		b.scalar()
		return
	}
	g := b.Globals[array]
	at := b.write(api.Long)
	switch k := b.below(12); {
	case k < 4:
		b.set(at, g.Size-1)
		b.add(api.Instr{Op: api.IBin, Type: api.Long, S: "&", Dst: at, A: at, B: b.read(api.Long)})
	case k < 11:
		b.set(at, b.below(g.Size))
	}
	if b.chance(2) {
		b.add(api.Instr{Op: api.ILoad, N: array, A: at, Dst: b.write(heldAs(g.Type))})
	} else {
		b.add(api.Instr{Op: api.IStore, N: array, A: at, B: b.read(heldAs(g.Type))})
	}
}

// scalar gets or sets a scalar.
func (b *builder) scalar() {
	at := b.global(false)
	t := b.Globals[at].Type
	if b.chance(2) {
		b.add(api.Instr{Op: api.IGet, N: at, Dst: b.write(t)})
	} else {
		b.add(api.Instr{Op: api.ISet, N: at, A: b.read(t)})
	}
}

// call calls a function: mostly one ahead of this one, so that calls end.
func (b *builder) call() {
	n := b.below(b.current + 1)
	switch {
	case b.chance(15):
		n = b.below(len(b.Funcs))
	case n == b.current || b.Funcs[n].Name == "main":
		b.add(api.Instr{Op: api.IOut, A: b.read(api.Long)})
		return
	}
	f := b.Funcs[n]
	i := api.Instr{Op: api.ICall, N: n, Dst: -1}
	for _, t := range f.Regs[:f.Params] {
		i.Args = append(i.Args, b.read(t))
	}
	if f.Type != api.Void && !b.chance(4) {
		i.Dst = b.write(f.Type)
	}
	b.add(i)
}
