package ir

import (
	"math"
	"slices"
	"testing"

	"mortise/api"
	"mortise/sample"
)

// trial is a module, its input, how many steps it takes till it ends, and its run with as many.
type trial struct {
	name  string
	m     api.Module
	input []int
	steps int
	run   api.Run
}

// try runs modules with the steps that they need, with more, and with fewer.
func try(t *testing.T, l []trial) {
	t.Helper()
	for _, x := range l {
		if wrong := Check(x.m); wrong != api.OK {
			t.Errorf("%s: error %d", x.name, wrong)
			continue
		}
		if wrong := runs(x.m).Take(x.input, x.steps, x.run); wrong != "" {
			t.Errorf("%s, %s", x.name, wrong)
		}
	}
}

const (
	leastInt  = -1 << 31
	leastLong = -1 << 63
)

// P6.3: registers are 0 at first; an IConst, an ICopy and an IConv write what they say.
func TestRegisters(t *testing.T) {
	try(t, []trial{
		{"zero", alone(ints(1), block(leave(0))), nil, 1, done(0)},
		{"a number", alone(ints(2), block(leave(1), set(0, 3), set(1, leastInt))), nil, 3, done(leastInt)},
		{"a copy", alone(ints(2), block(leave(1), set(0, 3), move(1, 0), set(0, 4))), nil, 4, done(3)},
		{"a copy of itself", alone(ints(1), block(leave(0), set(0, 3), move(0, 0))), nil, 3, done(3)},
		{"a long copy", alone([]int{api.Long, api.Long, api.Int}, block(leave(2), set(0, leastLong), move(1, 0), out(1))), nil, 4, done(0, leastLong)},
		{"to an Int", alone([]int{api.Long, api.Int}, block(leave(1), set(0, 1<<32+7), conv(api.Int, 1, 0))), nil, 3, done(7)},
		{"to a great Int", alone([]int{api.Long, api.Int}, block(leave(1), set(0, 1<<31), conv(api.Int, 1, 0))), nil, 3, done(leastInt)},
		{"to a Char", alone([]int{api.Long, api.Int}, block(leave(1), set(0, 1<<40+200), conv(api.Char, 1, 0))), nil, 3, done(-56)},
		{"Int to a Char", alone(ints(1), block(leave(0), set(0, 128), conv(api.Char, 0, 0))), nil, 3, done(-128)},
		{"Int to an Int", alone(ints(2), block(leave(1), set(0, -5), conv(api.Int, 1, 0))), nil, 3, done(-5)},
		{"to a Long", alone([]int{api.Int, api.Long}, block(leave(0), set(0, -5), conv(api.Long, 1, 0), out(1))), nil, 4, done(-5, -5)},
		{"Long to a Long", alone([]int{api.Int, api.Long}, block(leave(0), set(1, leastLong), conv(api.Long, 1, 1), out(1))), nil, 4, done(0, leastLong)},
	})
}

// P6.3: an IBin is word.Bin of its Type, and its trap ends the run.
func TestOperations(t *testing.T) {
	of := func(kind, a int, s string, b int) api.Module {
		regs := []int{kind, kind, kind, api.Int, api.Long, api.Int}
		code := []api.Instr{set(0, a), set(1, b)}
		if slices.Contains([]string{"==", "!=", "<", "<=", ">", ">="}, s) {
			code = append(code, bin(kind, 3, 0, s, 1), conv(api.Long, 4, 3))
		} else {
			code = append(code, bin(kind, 2, 0, s, 1), conv(api.Long, 4, 2))
		}
		return alone(regs, block(leave(5), append(code, out(4))...))
	}
	for _, x := range []struct {
		kind, a int
		s       string
		b, want int
	}{
		{api.Int, 1<<31 - 1, "+", 1, leastInt}, {api.Long, 1<<31 - 1, "+", 1, 1 << 31}, {api.Int, 3, "-", 5, -2}, {api.Int, leastInt, "*", -1, leastInt}, {api.Long, leastLong, "*", -1, leastLong},
		{api.Int, -7, "/", 2, -3}, {api.Int, -7, "%", 2, -1}, {api.Int, leastInt, "%", -1, 0}, {api.Long, leastInt, "/", -1, 1 << 31},
		{api.Int, 6, "&", 3, 2}, {api.Int, 6, "|", 3, 7}, {api.Int, 6, "^", 3, 5}, {api.Int, 1, "<<", 33, 2}, {api.Long, 1, "<<", 33, 1 << 33}, {api.Int, -5, ">>", 1, -3}, {api.Long, -5, ">>", -1, -1},
		{api.Int, 2, "==", 2, 1}, {api.Int, 2, "!=", 2, 0}, {api.Long, 1 << 32, "==", 0, 0}, {api.Long, 1 << 32, ">", 0, 1}, {api.Int, 2, "<", 3, 1}, {api.Int, 3, "<=", 2, 0}, {api.Int, 2, ">", 3, 0}, {api.Long, -2, ">=", 3, 0},
	} {
		try(t, []trial{{x.s, of(x.kind, x.a, x.s, x.b), nil, 6, done(0, x.want)}})
	}
	try(t, []trial{
		{"by 0", of(api.Int, 5, "/", 0), nil, 3, trapped(api.TrapZero)},
		{"rest by 0", of(api.Long, 5, "%", 0), nil, 3, trapped(api.TrapZero)},
		{"too great", of(api.Int, leastInt, "/", -1), nil, 3, trapped(api.TrapOver)},
		{"too great a Long", of(api.Long, leastLong, "/", -1), nil, 3, trapped(api.TrapOver)},
	})
}

// P6.3: an operation may write what it reads.
func TestOperationsOnOneRegister(t *testing.T) {
	try(t, []trial{
		{"both", alone(ints(1), block(leave(0), set(0, 3), bin(api.Int, 0, 0, "*", 0))), nil, 3, done(9)},
		{"left", alone(ints(2), block(leave(0), set(0, 3), set(1, 5), bin(api.Int, 0, 0, "-", 1))), nil, 4, done(-2)},
		{"right", alone(ints(2), block(leave(1), set(0, 3), set(1, 5), bin(api.Int, 1, 0, "-", 1))), nil, 4, done(-2)},
	})
}

// P6.3: IIn is the next input, and 0 after the last one; IOut outputs.
func TestInputAndOutput(t *testing.T) {
	twice := alone([]int{api.Long, api.Long, api.Int}, block(leave(2), in(0), in(1), out(1), out(0)))
	try(t, []trial{
		{"two", twice, []int{5, leastLong, 7}, 5, done(0, leastLong, 5)},
		{"one", twice, []int{5}, 5, done(0, 0, 5)},
		{"none", twice, nil, 5, done(0, 0, 0)},
	})
	if run := Run(twice, []int{5, 6}, 3); !sample.SameRun(run, api.Run{Out: []int{6}, Status: api.Going}) {
		t.Error(run)
	}
}

// P6.3: scalars are 0 at first, one is not the other, and they stay from call to call.
func TestScalars(t *testing.T) {
	globals := []api.Global{array(api.Char, 1), scalar(api.Long), scalar(api.Int), scalar(api.Long)}
	regs := []int{api.Long, api.Int, api.Long, api.Long}
	try(t, []trial{
		{"two Longs", with(globals, regs, block(leave(1), set(0, 1<<40), put(1, 0), get(2, 1), out(2), get(2, 3), out(2))), nil, 7, done(0, 1<<40, 0)},
		{"an Int", with(globals, regs, block(leave(1), get(1, 2), conv(api.Long, 0, 1), out(0), set(1, -7), put(2, 1), set(1, 0), get(1, 2))), nil, 8, done(-7, 0)},
	})
	m := with(globals, regs, block(leave(1), call(-1, 1), call(-1, 1), get(1, 2)))
	m.Funcs = append(m.Funcs, api.Code{Name: "f", Regs: ints(2), Blocks: []api.Block{block(leave(-1), get(0, 2), set(1, 3), bin(api.Int, 0, 0, "+", 1), put(2, 0))}})
	try(t, []trial{{"a call's", m, nil, 14, done(6)}})
}

// P6.3: elements are 0 at first, are wrapped to their type when they are stored, and trap where they are not.
func TestElements(t *testing.T) {
	globals := []api.Global{array(api.Char, 3), array(api.Int, 3), array(api.Long, 3), array(api.Int, 3)}
	regs := []int{api.Long, api.Int, api.Long, api.Int}
	kept := func(kind, at, v int) api.Module { // an Int, and a Long that is output
		if kind == 2 {
			return with(globals, regs, block(leave(3), set(0, at), set(2, v), store(kind, 0, 2), set(2, 1), load(2, kind, 0), out(2)))
		}
		return with(globals, regs, block(leave(3), set(0, at), set(1, v), store(kind, 0, 1), set(1, 1), load(1, kind, 0), conv(api.Long, 2, 1), out(2)))
	}
	try(t, []trial{
		{"a Char", kept(0, 0, 200), nil, 8, done(0, -56)},
		{"a low Char", kept(0, 2, -129), nil, 8, done(0, 127)},
		{"an Int", kept(1, 1, leastInt), nil, 8, done(0, leastInt)},
		{"a Long", kept(2, 2, leastLong), nil, 7, done(0, leastLong)},
		{"behind the last", kept(0, 3, 1), nil, 3, trapped(api.TrapIndex)},
		{"ahead of the first", kept(1, -1, 1), nil, 3, trapped(api.TrapIndex)},
		{"far behind", kept(2, 1<<32, 1), nil, 3, trapped(api.TrapIndex)},
		{"far ahead", kept(2, leastLong, 1), nil, 3, trapped(api.TrapIndex)},
		{"a load behind the last", with(globals, regs, block(leave(1), set(0, 3), load(1, 1, 0))), nil, 2, trapped(api.TrapIndex)},
		{"a load ahead of the first", with(globals, regs, block(leave(1), set(0, -1), load(1, 1, 0))), nil, 2, trapped(api.TrapIndex)},
		{"a load of the first and the last", with(globals, regs, block(leave(1), load(1, 0, 0), set(0, 2), load(1, 1, 0))), nil, 4, done(0)},
		{"each its own", with(globals, regs, block(leave(3), set(0, 1), set(1, 7), store(1, 0, 1), load(3, 3, 0))), nil, 5, done(0)},
		{"its neighbour", with(globals, regs, block(leave(3), set(0, 1), set(1, 7), store(1, 0, 1), set(0, 2), load(3, 1, 0))), nil, 6, done(0)},
		{"out ahead of the trap", with(globals, regs, block(leave(3), out(0), set(0, 9), out(0), load(3, 1, 0))), nil, 4, trapped(api.TrapIndex, 0, 9)},
	})
}

// P6.3: an array that is greater than any memory is one nevertheless.
func TestGreatArray(t *testing.T) {
	globals := []api.Global{array(api.Char, math.MaxInt), array(api.Long, 1<<50)}
	regs := []int{api.Long, api.Int}
	try(t, []trial{
		{"its last", with(globals, regs, block(leave(1), set(0, math.MaxInt-1), set(1, 300), store(0, 0, 1), set(1, 0), load(1, 0, 0))), nil, 6, done(44)},
		{"behind it", with(globals, regs, block(leave(1), set(0, math.MaxInt), load(1, 0, 0))), nil, 2, trapped(api.TrapIndex)},
		{"a Long", with(globals, regs, block(leave(1), set(0, 1<<50-1), store(1, 0, 0), load(0, 1, 0), out(0))), nil, 5, done(0, 1<<50-1)},
	})
}

// P6.3: ends go where they say; a Branch asks whether its register is 0.
func TestEnds(t *testing.T) {
	choose := func(n int) api.Module {
		return alone(ints(2), block(branch(0, 1, 2), set(0, n)), block(jump(3), set(1, 5)), block(jump(3), set(1, 6)), block(leave(1)))
	}
	down := alone(ints(2), block(jump(1), set(0, 3), set(1, 1)), block(branch(0, 1, 2), bin(api.Int, 0, 0, "-", 1)), block(leave(0)))
	try(t, []trial{
		{"0", choose(0), nil, 5, done(6)},
		{"1", choose(1), nil, 5, done(5)},
		{"-1", choose(-1), nil, 5, done(5)},
		{"the least", choose(leastInt), nil, 5, done(5)},
		{"a loop", down, nil, 10, done(0)},
		{"to one block", alone(ints(1), block(branch(0, 1, 1)), block(leave(0))), nil, 2, done(0)},
		{"bare", alone(ints(1), block(jump(2)), block(leave(0)), block(jump(1))), nil, 3, done(0)},
		{"back to the first", alone(ints(3), block(branch(0, 1, 2)), block(leave(0)), block(jump(0), set(0, 4))), nil, 5, done(4)},
	})
	if run := Run(alone(ints(1), block(jump(0))), nil, 100000); !sample.SameRun(run, api.Run{Status: api.Going}) {
		t.Error(run)
	}
}

// P6.3: a call has registers of its own, 0 but for its parameters, and what it returns becomes its Dst.
func TestCalls(t *testing.T) {
	m := alone(ints(3), block(leave(2), set(0, 5), set(1, 7), call(2, 1, 1, 0)))
	m.Funcs = append(m.Funcs, api.Code{Name: "minus", Type: api.Int, Params: 2, Regs: ints(4), Blocks: []api.Block{block(leave(2), bin(api.Int, 2, 0, "-", 1), bin(api.Int, 2, 2, "+", 3), set(3, 100))}})
	again := alone(ints(3), block(leave(2), set(0, 5), set(1, 7), call(2, 1, 1, 0), call(2, 1, 1, 2)))
	again.Funcs = append(again.Funcs, m.Funcs[1])
	unheard := alone(ints(3), block(leave(2), set(2, 9), call(-1, 1, 2, 2)))
	unheard.Funcs = append(unheard.Funcs, m.Funcs[1])
	long := alone([]int{api.Long, api.Int}, block(leave(1), set(0, 1<<40), call(0, 1, 0), out(0)))
	long.Funcs = append(long.Funcs, api.Code{Name: "long", Type: api.Long, Params: 1, Regs: longs(1), Blocks: []api.Block{block(leave(0), out(0))}})
	same := alone(ints(1), block(leave(0), set(0, 4), call(-1, 1)))
	same.Funcs = append(same.Funcs, api.Code{Name: "void", Regs: ints(1), Blocks: []api.Block{block(leave(-5), set(0, 8))}})
	try(t, []trial{
		{"in their order", m, nil, 8, done(2)},
		{"twice", again, nil, 13, done(5)},
		{"without a Dst", unheard, nil, 7, done(9)},
		{"a Long", long, nil, 6, done(0, 1<<40, 1<<40)},
		{"registers of its own", same, nil, 5, done(4)},
	})
}

// P6.3: main is the first function named so, wherever it stands; it may be called, too.
func TestMain(t *testing.T) {
	f := api.Code{Name: "f", Type: api.Int, Regs: ints(1), Blocks: []api.Block{block(leave(0), set(0, 1))}}
	main := api.Code{Name: "main", Type: api.Int, Regs: ints(1), Blocks: []api.Block{block(leave(0), set(0, 2))}}
	other := api.Code{Name: "main", Type: api.Long, Params: 1, Regs: longs(1), Blocks: []api.Block{block(leave(0))}}
	try(t, []trial{{"the second", api.Module{Funcs: []api.Code{f, main, other}}, nil, 2, done(2)}})
	again := with([]api.Global{scalar(api.Int)}, ints(3),
		block(branch(0, 1, 2), get(0, 0)),
		block(leave(1), set(1, 5)),
		block(leave(0), set(1, 1), put(0, 1), call(2, 0), bin(api.Int, 0, 2, "+", 1)))
	try(t, []trial{{"twice", again, nil, 11, done(6)}})
}

// P6.3: 32 calls may be open, main's among them; the one after that traps.
func TestOpenCalls(t *testing.T) {
	chain := func(calls int) api.Module { // f(n) is 0 for 0, and otherwise f(n - 1)
		m := alone(ints(1), block(leave(0), set(0, calls-2), call(0, 1, 0)))
		m.Funcs = append(m.Funcs, api.Code{Name: "f", Type: api.Int, Params: 1, Regs: ints(2), Blocks: []api.Block{
			block(branch(0, 1, 2)),
			block(leave(0), set(1, 1), bin(api.Int, 0, 0, "-", 1), call(0, 1, 0)),
			block(leave(0)),
		}})
		return m
	}
	try(t, []trial{
		{"two", chain(2), nil, 5, done(0)},
		{"32", chain(32), nil, 3 + 30*5 + 2, done(0)},
		{"33", chain(33), nil, 2 + 31*4, trapped(api.TrapCalls)},
		{"main", alone(ints(1), block(leave(0), call(0, 0))), nil, 32, trapped(api.TrapCalls)},
	})
	many := alone(ints(3), block(jump(1), set(0, 100), set(1, 1)), block(branch(0, 1, 2), call(-1, 1), bin(api.Int, 0, 0, "-", 1)), block(leave(0)))
	many.Funcs = append(many.Funcs, api.Code{Name: "f", Blocks: []api.Block{block(leave(-1))}})
	try(t, []trial{{"one after the other", many, nil, 3 + 100*4 + 1, done(0)}})
}
