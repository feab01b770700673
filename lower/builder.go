package lower

import "mortise/api"

// noRegister stands where there is no register: the result of a void call, and the value of a return without one.
const noRegister = -1

// place is where a block stands: its number is set when it begins.
type place struct{ number int }

// builder builds the blocks of a function of its program.
type builder struct {
	api.Program
	function *api.Func
	regs     []int // the registers' types
	blocks   []api.Block
	labels   map[string]*place // those that were met, by a goto or as themselves
	targets  []func()          // set where the blocks' ends go, when all blocks have begun
}

// begin begins a block.
func (b *builder) begin(p *place) {
	p.number = len(b.blocks)
	b.blocks = append(b.blocks, api.Block{})
}

// last is the block that began last.
func (b *builder) last() *api.Block { return &b.blocks[len(b.blocks)-1] }

func (b *builder) add(i api.Instr) {
	l := b.last()
	l.Code = append(l.Code, i)
}

// register is a new register.
func (b *builder) register(t int) int {
	b.regs = append(b.regs, t)
	return len(b.regs) - 1
}

// made is a new register that gets what an instruction makes.
func (b *builder) made(t int, i api.Instr) int {
	i.Dst = b.register(t)
	b.add(i)
	return i.Dst
}

// number is a new register with a number.
func (b *builder) number(t, n int) int {
	return b.made(t, api.Instr{Op: api.IConst, N: n})
}

// convert is a register's value as one of a type: the register itself, if it has that type.
func (b *builder) convert(r, t int) int {
	if b.regs[r] == t {
		return r
	}
	return b.made(intOrLong(t == api.Long), api.Instr{Op: api.IConv, Type: t, A: r})
}

// truth is an Int that is 0 exactly if a register is.
func (b *builder) truth(r int) int {
	if b.regs[r] == api.Int {
		return r
	}
	zero := b.number(api.Long, 0)
	return b.made(api.Int, api.Instr{Op: api.IBin, Type: api.Long, S: "!=", A: r, B: zero})
}

// end ends the block that began last, and tells its number.
func (b *builder) end(e api.End) int {
	b.last().End = e
	return len(b.blocks) - 1
}

func (b *builder) jump(to *place) {
	from := b.end(api.End{Kind: api.Jump})
	b.targets = append(b.targets, func() { b.blocks[from].End.To = to.number })
}

func (b *builder) branch(r int, to, other *place) {
	from := b.end(api.End{Kind: api.Branch, A: r})
	b.targets = append(b.targets, func() {
		b.blocks[from].End.To, b.blocks[from].End.Else = to.number, other.number
	})
}

func (b *builder) leave(r int) { b.end(api.End{Kind: api.Return, A: r}) }

// label is where a label's block stands, whether that has begun or not.
func (b *builder) label(name string) *place {
	p, ok := b.labels[name]
	if !ok {
		p = &place{}
		b.labels[name] = p
	}
	return p
}

func intOrLong(isLong bool) int {
	if isLong {
		return api.Long
	}
	return api.Int
}
