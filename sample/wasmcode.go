package sample

import "mortise/api"

// add appends an instruction to the list that is built.
func (b *wasmBuilder) add(i api.W) { b.list().code = append(b.list().code, i) }

// give is what an instruction pushes.
func (b *wasmBuilder) give(t int) { b.list().stack = append(b.list().stack, t) }

// use is what an instruction pops; values that are not there are pushed.
func (b *wasmBuilder) use(types ...int) {
	if !b.isThere(types) {
		for _, t := range types {
			b.value(t)
		}
	}
	l := b.list()
	l.stack = l.stack[:max(0, len(l.stack)-len(types))]
}

// isThere tells whether values of some types are the last ones on the stack, or count as present.
func (b *wasmBuilder) isThere(types []int) bool {
	l := b.list()
	for k, t := range types {
		at := len(l.stack) - len(types) + k
		if at < 0 && !l.isLeft || at >= 0 && l.stack[at] != t {
			return false
		}
	}
	return true
}

// put pushes a number.
func (b *wasmBuilder) put(t, n int) {
	b.add(api.W{Op: api.WConst, Type: t, N: n})
	b.give(t)
}

// value pushes some value of a type.
func (b *wasmBuilder) value(t int) {
	switch {
	case b.chance(2):
		b.put(t, b.constant(t))
		return
	case t == api.Long && b.chance(3):
		b.add(api.W{Op: api.WCall})
	default:
		b.add(api.W{Op: api.WGet, N: b.local(t)})
	}
	b.give(t)
}

// local is a local of a type, but not the counter.
func (b *wasmBuilder) local(t int) int {
	l := b.locals()
	for {
		if at := b.below(len(l) - 1); l[at] == t {
			return at
		}
	}
}

func (b *wasmBuilder) instructions() {
	for range 1 + b.below(3+2*b.size) {
		if b.list().isLeft && b.chance(2) {
			return
		}
		b.instruction()
	}
}

func (b *wasmBuilder) instruction() {
	t := b.number(api.Int, api.Long)
	switch k := b.below(30); {
	case k < 3:
		b.value(t)
	case k < 6:
		b.use(t)
		b.add(api.W{Op: api.WSet, N: b.local(t)})
	case k < 11:
		b.binary(t)
	case k < 13:
		b.convert(t)
	case k < 15:
		b.memory(t)
	case k < 18:
		b.call()
	case k < 24:
		b.nest()
	case k < 28:
		b.jump()
	default:
		b.use(t)
		b.add(api.W{Op: api.WDrop})
	}
}

// binary makes an operation; one that divides does it mostly by a number that isn't 0.
func (b *wasmBuilder) binary(t int) {
	s := b.pick("add", "sub", "mul", "div_s", "rem_s", "and", "or", "xor", "shl", "shr_s", "eq", "ne", "lt_s", "le_s", "gt_s", "ge_s")
	result := t
	switch s {
	case "eq", "ne", "lt_s", "le_s", "gt_s", "ge_s":
		result = api.Int
	case "div_s", "rem_s":
		if b.chance(8) {
			b.put(t, least(t))
			b.put(t, -1)
		} else if !b.chance(4) {
			b.use(t)
			b.give(t)
			b.put(t, b.number(1, 2, 3, 7, -1, -3))
		}
	}
	b.use(t, t)
	b.add(api.W{Op: api.WBin, Type: t, S: s})
	b.give(result)
}

func (b *wasmBuilder) convert(t int) {
	b.use(t)
	switch {
	case b.chance(3):
		b.add(api.W{Op: api.WEqz, Type: t})
		b.give(api.Int)
	case t == api.Long:
		b.add(api.W{Op: api.WWrap})
		b.give(api.Int)
	default:
		b.add(api.W{Op: api.WExtend})
		b.give(api.Long)
	}
}

// memory loads or stores, mostly where that may be done.
func (b *wasmBuilder) memory(t int) {
	count := b.number(1, 4)
	if t == api.Long {
		count = 8
	}
	switch {
	case b.chance(8):
		b.put(api.Int, b.number(-1, b.Memory-count+1, b.Memory, -1<<31, 1<<31-1))
	case b.Memory >= count:
		b.put(api.Int, b.number(0, b.Memory-count, b.below(b.Memory-count+1)))
	default:
		return
	}
	if b.chance(2) {
		b.use(api.Int)
		b.add(api.W{Op: api.WLoad, Type: t, N: count})
		b.give(t)
		return
	}
	b.value(t)
	b.use(api.Int, t)
	b.add(api.W{Op: api.WStore, Type: t, N: count})
}

// call calls a function: mostly one ahead of this one, so that calls end.
func (b *wasmBuilder) call() {
	n := b.below(b.current + 1)
	switch {
	case b.chance(15):
		n = b.below(len(b.Funcs))
	case b.chance(40):
		b.use(api.Int)
		b.add(api.W{Op: api.WCall, N: 2})
		return
	case n == b.current || n == b.Main:
		b.use(api.Long)
		b.add(api.W{Op: api.WCall, N: 1})
		return
	}
	f := b.Funcs[n]
	b.use(f.Params...)
	b.add(api.W{Op: api.WCall, N: n + 3})
	if f.Type != api.Void {
		b.give(f.Type)
	}
}

// nest makes an instruction with lists of its own.
func (b *wasmBuilder) nest() {
	if len(b.around) > 2+b.size {
		return
	}
	switch b.below(3) {
	case 0:
		b.add(api.W{Op: api.WBlock, Body: b.nested(false)})
	case 1:
		b.add(api.W{Op: api.WLoop, Body: b.nested(true)})
	default:
		b.use(api.Int)
		i := api.W{Op: api.WIf, Body: b.nested(false), Other: -1}
		if b.chance(2) {
			i.Other = b.nested(false)
		}
		b.add(i)
	}
}

// jump goes on elsewhere, mostly only sometimes.
func (b *wasmBuilder) jump() {
	switch n := b.below(len(b.around)); {
	case b.chance(40):
		b.add(api.W{Op: api.WTrap})
		b.left()
	case b.chance(8):
		b.leave(api.WReturn)
	case b.chance(6):
		b.branch(n)
	default:
		b.branchIf(n)
	}
}

// isLoop tells whether a branch to a list goes back.
func (b *wasmBuilder) isLoop(n int) bool { return b.around[len(b.around)-1-n].isLoop }

// branch branches to a list; back only as long as the counter is small, or, rarely, without end.
func (b *wasmBuilder) branch(n int) {
	switch {
	case n == len(b.around)-1:
		b.leave(api.WBr)
	case b.isLoop(n) && !b.chance(6):
		b.branchIf(n)
	default:
		b.add(api.W{Op: api.WBr, N: n})
		b.left()
	}
}

// branchIf branches to a list if something is so: back mostly as long as the counter is small.
func (b *wasmBuilder) branchIf(n int) {
	if n == len(b.around)-1 {
		b.use(append(b.results(), api.Int)...)
		b.add(api.W{Op: api.WBrIf, N: n})
		if b.function().Type != api.Void {
			b.give(b.function().Type)
		}
		return
	}
	if b.isLoop(n) && !b.chance(8) {
		b.count()
	}
	b.use(api.Int)
	b.add(api.W{Op: api.WBrIf, N: n})
}

// count pushes whether the counter, which it increments, is small.
func (b *wasmBuilder) count() {
	counter := len(b.locals()) - 1
	b.add(api.W{Op: api.WGet, N: counter})
	b.add(api.W{Op: api.WConst, Type: api.Int, N: 1})
	b.add(api.W{Op: api.WBin, Type: api.Int, S: "add"})
	b.add(api.W{Op: api.WSet, N: counter})
	b.add(api.W{Op: api.WGet, N: counter})
	b.add(api.W{Op: api.WConst, Type: api.Int, N: b.below(8)})
	b.add(api.W{Op: api.WBin, Type: api.Int, S: "lt_s"})
	b.give(api.Int)
}
