package ir

import (
	"slices"

	"mortise/api"
	"mortise/sample"
)

// Shorter ways to write modules in tests.

func block(end api.End, code ...api.Instr) api.Block { return api.Block{Code: code, End: end} }

func jump(to int) api.End { return api.End{Kind: api.Jump, To: to} }

func branch(a, to, other int) api.End {
	return api.End{Kind: api.Branch, A: a, To: to, Else: other}
}

func leave(a int) api.End { return api.End{Kind: api.Return, A: a} }

func set(dst, n int) api.Instr { return api.Instr{Op: api.IConst, Dst: dst, N: n} }

func move(dst, a int) api.Instr { return api.Instr{Op: api.ICopy, Dst: dst, A: a} }

func bin(t, dst, a int, s string, b int) api.Instr {
	return api.Instr{Op: api.IBin, Type: t, Dst: dst, A: a, S: s, B: b}
}

func conv(t, dst, a int) api.Instr { return api.Instr{Op: api.IConv, Type: t, Dst: dst, A: a} }

func load(dst, array, a int) api.Instr {
	return api.Instr{Op: api.ILoad, Dst: dst, N: array, A: a}
}

func store(array, a, b int) api.Instr { return api.Instr{Op: api.IStore, N: array, A: a, B: b} }

func get(dst, scalar int) api.Instr { return api.Instr{Op: api.IGet, Dst: dst, N: scalar} }

func put(scalar, a int) api.Instr { return api.Instr{Op: api.ISet, N: scalar, A: a} }

func call(dst, function int, args ...int) api.Instr {
	return api.Instr{Op: api.ICall, Dst: dst, N: function, Args: args}
}

func in(dst int) api.Instr { return api.Instr{Op: api.IIn, Dst: dst} }

func out(a int) api.Instr { return api.Instr{Op: api.IOut, A: a} }

func ints(n int) []int { return slices.Repeat([]int{api.Int}, n) }

func longs(n int) []int { return slices.Repeat([]int{api.Long}, n) }

// alone is a module of main alone.
func alone(regs []int, blocks ...api.Block) api.Module { return with(nil, regs, blocks...) }

// with is a module of globals and main.
func with(globals []api.Global, regs []int, blocks ...api.Block) api.Module {
	return api.Module{Globals: globals, Funcs: []api.Code{{Name: "main", Type: api.Int, Regs: regs, Blocks: blocks}}}
}

func scalar(t int) api.Global { return api.Global{Name: "s", Type: t} }

func array(t, size int) api.Global { return api.Global{Name: "t", Type: t, Size: size} }

func done(code int, out ...int) api.Run { return api.Run{Out: out, Status: api.Done, Code: code} }

func trapped(number int, out ...int) api.Run {
	return api.Run{Out: out, Status: api.Trapped, Code: number}
}

// runs are the runs of a module.
func runs(m api.Module) sample.Runs {
	return func(input []int, steps int) api.Run { return Run(m, input, steps) }
}
