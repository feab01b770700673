package sample

import (
	"slices"

	"mortise/api"
)

// Inputs are inputs for the runs of what is made here.
func Inputs() [][]int {
	return [][]int{nil, {3, -5, 1 << 40, 7, 0, 1, 2, 255, -1 << 63}, slices.Repeat([]int{1}, 20)}
}

// SameRun tells whether two runs did the same.
func SameRun(a, b api.Run) bool {
	return slices.Equal(a.Out, b.Out) && a.Status == b.Status && a.Code == b.Code
}

// SameProgram tells whether two programs are the same.
func SameProgram(a, b api.Program) bool {
	return slices.Equal(a.Globals, b.Globals) && slices.EqualFunc(a.Funcs, b.Funcs, sameFunc) && slices.EqualFunc(a.Nodes, b.Nodes, sameNode)
}

func sameFunc(x, y api.Func) bool {
	return x.Name == y.Name && x.Type == y.Type && x.Body == y.Body && x.At == y.At && slices.Equal(x.Params, y.Params) && slices.Equal(x.Vars, y.Vars)
}

func sameNode(x, y api.Node) bool {
	return x.Op == y.Op && x.At == y.At && x.N == y.N && x.S == y.S && x.To == y.To && x.Type == y.Type && x.Ref == y.Ref && slices.Equal(x.Kids, y.Kids)
}

// SameModule tells whether two modules are the same.
func SameModule(a, b api.Module) bool {
	return slices.Equal(a.Globals, b.Globals) && slices.EqualFunc(a.Funcs, b.Funcs, SameCode)
}

// SameCode tells whether two functions are the same.
func SameCode(x, y api.Code) bool {
	return x.Name == y.Name && x.Type == y.Type && x.Params == y.Params && slices.Equal(x.Regs, y.Regs) && slices.EqualFunc(x.Blocks, y.Blocks, SameBlock)
}

// SameBlock tells whether two blocks are the same.
func SameBlock(x, y api.Block) bool {
	return x.End == y.End && slices.EqualFunc(x.Code, y.Code, SameInstr)
}

// SameInstr tells whether two instructions are the same.
func SameInstr(x, y api.Instr) bool {
	return x.Op == y.Op && x.Type == y.Type && x.Dst == y.Dst && x.A == y.A && x.B == y.B && x.N == y.N && x.S == y.S && slices.Equal(x.Args, y.Args)
}
