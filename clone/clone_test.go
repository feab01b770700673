package clone

import (
	"reflect"
	"testing"

	"mortise/api"
)

// made is always the same function, in new memory.
func made() api.Code {
	return api.Code{Name: "f", Type: api.Long, Params: 1, Regs: []int{api.Int, api.Long}, Blocks: []api.Block{
		{Code: []api.Instr{{Op: api.IBin, S: "+", Dst: 1}, {Op: api.ICall, Args: []int{0, 1}}}, End: api.End{Kind: api.Jump, To: 1}},
		{End: api.End{Kind: api.Return, A: 1}},
	}}
}

func TestCopiesAreTheSame(t *testing.T) {
	for _, c := range []api.Code{made(), {}} {
		if got := Code(c); !reflect.DeepEqual(got, c) {
			t.Error(got)
		}
	}
	if b := made().Blocks[0]; !reflect.DeepEqual(Block(b), b) {
		t.Error(Block(b))
	}
}

func TestCopiesAreNewMemory(t *testing.T) {
	c := made()
	got := Code(c)
	scribble(got.Blocks)
	got.Regs[0] = 9
	if !reflect.DeepEqual(c, made()) {
		t.Error("a function was changed by its copy:", c)
	}
	scribble([]api.Block{Block(c.Blocks[0])})
	if !reflect.DeepEqual(c, made()) {
		t.Error("a block was changed by its copy:", c)
	}
}

func scribble(blocks []api.Block) {
	for k, b := range blocks {
		for n, i := range b.Code {
			for j := range i.Args {
				i.Args[j] = 9
			}
			b.Code[n] = api.Instr{}
		}
		blocks[k] = api.Block{}
	}
}
