package sample

import (
	"slices"
	"strconv"

	"mortise/api"
	"mortise/clone"
)

// Module is a module in IR, the same for the same seed and size; the greater the size, up to 4, the more blocks and instructions it has. ir.Check accepts it; it may have loops with several entries, and blocks that are unreachable, bare, or equal to others; most of its runs end, well or by a trap, within some thousand steps.
func Module(seed, size int) api.Module {
	b := &builder{dice: newDice(seed), size: size}
	b.globals()
	b.heads()
	for i := range b.Funcs {
		b.current = i
		b.blocks()
	}
	return b.Module
}

// builder builds a module.
type builder struct {
	dice
	api.Module
	size    int
	current int         // the function that is built
	code    []api.Instr // of the block that is built
}

// globals makes a scalar, and some others, arrays among them.
func (b *builder) globals() {
	sizes := []int{0}
	for range 1 + b.below(4) {
		sizes = append(sizes, b.number(0, 1, 2, 4, 8))
	}
	for i, size := range sizes {
		t := b.number(api.Int, api.Long)
		if size > 0 {
			t = b.number(api.Char, api.Int, api.Long)
		}
		b.Globals = append(b.Globals, api.Global{Name: "g" + strconv.Itoa(i), Type: t, Size: size})
	}
}

// heads makes the functions without their blocks; main is mostly the last one.
func (b *builder) heads() {
	for i := range b.below(4) {
		f := api.Code{Name: "f" + strconv.Itoa(i), Type: b.number(api.Void, api.Int, api.Long), Params: b.below(4)}
		b.Funcs = append(b.Funcs, b.withRegisters(f))
	}
	at := len(b.Funcs)
	if b.chance(4) {
		at = b.below(at + 1)
	}
	main := b.withRegisters(api.Code{Name: "main", Type: api.Int})
	b.Funcs = slices.Insert(b.Funcs, at, main)
}

// withRegisters gives a function its registers: behind the parameters some of both types, and last the counter, which counts how often the function went back.
func (b *builder) withRegisters(f api.Code) api.Code {
	for range f.Params {
		f.Regs = append(f.Regs, b.number(api.Int, api.Long))
	}
	f.Regs = append(f.Regs, api.Int, api.Long, api.Int, api.Long)
	for range b.below(3) {
		f.Regs = append(f.Regs, b.number(api.Int, api.Long))
	}
	f.Regs = append(f.Regs, api.Int)
	return f
}

// function is the function that is built.
func (b *builder) function() *api.Code { return &b.Funcs[b.current] }

// blocks makes a function's blocks.
func (b *builder) blocks() {
	f := b.function()
	count := 1 + b.below(2+3*b.size)
	for at := range count {
		if twin := b.below(6 * count); twin < at && leadsBehind(f.Blocks[twin].End, at) {
			f.Blocks = append(f.Blocks, clone.Block(f.Blocks[twin]))
			continue
		}
		b.code = nil
		if !b.chance(5) {
			b.instructions()
		}
		end := b.end(at, count)
		f.Blocks = append(f.Blocks, api.Block{Code: b.code, End: end})
	}
}

// leadsBehind tells whether an end never leads back from a block with a number: a run might go round without end.
func leadsBehind(e api.End, at int) bool {
	return e.Kind == api.Return || e.To > at && (e.Kind == api.Jump || e.Else > at)
}

// end ends a block; it may append instructions to it.
func (b *builder) end(at, count int) api.End {
	switch k := b.below(16); {
	case at == count-1 || k == 0:
		return b.leave()
	case b.chance(30):
		return api.End{Kind: api.Branch, A: b.read(api.Int), To: b.below(count), Else: b.below(count)}
	case k < 4:
		return api.End{Kind: api.Jump, To: b.behind(at, count)}
	case k < 9:
		return api.End{Kind: api.Branch, A: b.read(api.Int), To: b.behind(at, count), Else: b.behind(at, count)}
	default:
		return b.back(at, count)
	}
}

// behind is one of the blocks behind one, mostly a near one.
func (b *builder) behind(at, count int) int {
	if b.chance(5) {
		return at + 1 + b.below(count-at-1)
	}
	return min(at+1+b.below(3), count-1)
}

func (b *builder) leave() api.End {
	t := b.function().Type
	if t == api.Void {
		return api.End{Kind: api.Return, A: -1}
	}
	return api.End{Kind: api.Return, A: b.read(t)}
}

// back leads back to a block as long as the counter is small.
func (b *builder) back(at, count int) api.End {
	counter := len(b.function().Regs) - 1
	number, less := b.write(api.Int), b.write(api.Int)
	b.set(number, 1)
	b.add(api.Instr{Op: api.IBin, Type: api.Int, S: "+", Dst: counter, A: counter, B: number})
	b.set(number, b.below(8))
	b.add(api.Instr{Op: api.IBin, Type: api.Int, S: "<", Dst: less, A: counter, B: number})
	return api.End{Kind: api.Branch, A: less, To: b.below(at + 1), Else: b.behind(at, count)}
}
