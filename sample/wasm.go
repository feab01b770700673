package sample

import (
	"strconv"

	"mortise/api"
)

// Wasm is a module of Wasm, the same for the same seed and size; the greater the size, up to 4, the more lists and instructions it has. wasm.Check accepts it; it may have instructions behind those that leave a list, and its lists stand in any order that is right; most of its runs end, well or by a trap, within some thousand steps.
func Wasm(seed, size int) api.WModule {
	b := &wasmBuilder{dice: newDice(seed), size: size}
	b.Memory = b.number(0, 1, 4, 7, 8, 16, 100, api.MaxData)
	b.heads()
	for i := range b.Funcs {
		b.current = i
		b.body()
		if b.chance(2) {
			f := b.function()
			f.Lists = inOrder(f.Lists, b.orderOf(f.Lists))
		}
	}
	return b.WModule
}

// wasmBuilder builds a module of Wasm.
type wasmBuilder struct {
	dice
	api.WModule
	size    int
	current int        // the function that is built
	around  []wasmList // the lists that are built, each around the next one, the body first
	ended   [][]api.W  // those that were built
}

// wasmList is a list that is built.
type wasmList struct {
	code   []api.W
	stack  []int // the types of the values that belong to it
	isLeft bool  // what is not there counts as present
	isLoop bool
}

// heads makes the functions without their lists; main is mostly the last one.
func (b *wasmBuilder) heads() {
	count := b.below(4)
	b.Main = count
	if b.chance(4) {
		b.Main = b.below(count + 1)
	}
	for i := range count + 1 {
		f := api.WFunc{Name: "f" + strconv.Itoa(i), Type: b.number(api.Void, api.Int, api.Long)}
		for range b.below(4) {
			f.Params = append(f.Params, b.number(api.Int, api.Long))
		}
		if i == b.Main {
			f = api.WFunc{Name: "main", Type: api.Int}
		}
		b.Funcs = append(b.Funcs, b.withLocals(f))
	}
}

// withLocals gives a function its locals: some of both types, and last the counter, which counts how often the function went back.
func (b *wasmBuilder) withLocals(f api.WFunc) api.WFunc {
	f.Locals = append(f.Locals, api.Int, api.Long)
	for range b.below(3) {
		f.Locals = append(f.Locals, b.number(api.Int, api.Long))
	}
	f.Locals = append(f.Locals, api.Int)
	return f
}

// function is the function that is built.
func (b *wasmBuilder) function() *api.WFunc { return &b.Funcs[b.current] }

// locals are the types of a function's locals.
func (b *wasmBuilder) locals() []int {
	f := b.function()
	return append(append([]int{}, f.Params...), f.Locals...)
}

// list is the list that is built.
func (b *wasmBuilder) list() *wasmList { return &b.around[len(b.around)-1] }

// body makes a function's lists.
func (b *wasmBuilder) body() {
	b.ended = nil
	b.within(false, func() {
		b.instructions()
		b.leaveBody()
	})
	b.function().Lists = b.ended
}

// within makes a list, and is its number.
func (b *wasmBuilder) within(isLoop bool, contents func()) int {
	b.around = append(b.around, wasmList{isLoop: isLoop})
	contents()
	b.ended = append(b.ended, b.list().code)
	b.around = b.around[:len(b.around)-1]
	return len(b.ended) - 1
}

// nested makes a list within the one that is built.
func (b *wasmBuilder) nested(isLoop bool) int {
	return b.within(isLoop, func() {
		if !b.chance(8) {
			b.instructions()
		}
		b.empty()
	})
}

// empty ends a list: nothing may be left on its stack.
func (b *wasmBuilder) empty() {
	if l := b.list(); len(l.stack) > 0 && !l.isLoop && b.chance(3) {
		b.branch(0)
	}
	b.drop(0)
}

// drop drops all values of the list but so many.
func (b *wasmBuilder) drop(but int) {
	for len(b.list().stack) > but {
		b.add(api.W{Op: api.WDrop})
		b.use(b.list().stack[len(b.list().stack)-1])
	}
}

// leaveBody ends the body: what is returned is left on its stack, or counts as present.
func (b *wasmBuilder) leaveBody() {
	switch {
	case b.chance(4):
		b.leave(api.WReturn)
	case b.chance(6):
		b.leave(api.WBr)
	}
	b.drop(0)
	if b.function().Type != api.Void && !(b.list().isLeft && b.chance(2)) {
		b.value(b.function().Type)
	}
}

// leave returns, by a WReturn or a branch to the body.
func (b *wasmBuilder) leave(op int) {
	b.use(b.results()...)
	i := api.W{Op: op}
	if op == api.WBr {
		i.N = len(b.around) - 1
	}
	b.add(i)
	b.left()
}

// left is what stands behind an instruction that leaves the list.
func (b *wasmBuilder) left() {
	l := b.list()
	l.stack, l.isLeft = nil, true
}

// results are the types of what the function returns.
func (b *wasmBuilder) results() []int {
	if b.function().Type == api.Void {
		return nil
	}
	return []int{b.function().Type}
}

// orderOf is an order in which a function's lists may stand: each behind all those to which it refers.
func (b *wasmBuilder) orderOf(lists [][]api.W) []int {
	var order []int
	isPlaced := make([]bool, len(lists))
	for len(order) < len(lists) {
		at := b.below(len(lists))
		isReady := !isPlaced[at]
		for _, i := range lists[at] {
			for _, inner := range ListsOf(i) {
				isReady = isReady && isPlaced[inner]
			}
		}
		if isReady {
			isPlaced[at] = true
			order = append(order, at)
		}
	}
	return order
}

// inOrder is lists in another order.
func inOrder(lists [][]api.W, order []int) [][]api.W {
	places := make([]int, len(lists))
	for place, at := range order {
		places[at] = place
	}
	out := make([][]api.W, len(lists))
	for place, at := range order {
		for _, i := range lists[at] {
			inner := ListsOf(i)
			if len(inner) > 0 {
				i.Body = places[i.Body]
			}
			if len(inner) > 1 {
				i.Other = places[i.Other]
			}
			out[place] = append(out[place], i)
		}
	}
	return out
}

// ListsOf are the lists to which an instruction of Wasm refers.
func ListsOf(i api.W) []int {
	switch {
	case i.Op == api.WIf && i.Other >= 0:
		return []int{i.Body, i.Other}
	case i.Op == api.WBlock, i.Op == api.WLoop, i.Op == api.WIf:
		return []int{i.Body}
	}
	return nil
}
