package thread

import (
	"testing"

	"mortise/api"
	"mortise/ir"
	"mortise/sample"
)

// world is a module of a scalar, a function that a main may call, and the main that is given.
func world(c api.Code) api.Module {
	c.Name = "main"
	return api.Module{
		Globals: []api.Global{{Name: "g", Type: api.Int}},
		Funcs: []api.Code{
			{Name: "f", Type: api.Int, Params: 2, Regs: []int{api.Int, api.Int}, Blocks: []api.Block{{End: api.End{Kind: api.Return}}}},
			c,
		},
	}
}

// row is a function, and what becomes of it, in the form of sample.ShowCode; an empty text: the same.
type row struct{ code, want string }

// hold holds what becomes of functions of a valid module.
func hold(t *testing.T, rows []row) {
	t.Helper()
	for _, x := range rows {
		c := sample.Code(x.code)
		if no := ir.Check(world(c)); no != api.OK {
			t.Errorf("%s: error %d", x.code, no)
			continue
		}
		if x.want == "" {
			x.want = x.code
		}
		got := Thread(c)
		if s := sample.ShowCode(got); s != x.want {
			t.Errorf("%s became\n%s, want\n%s", x.code, s, x.want)
		}
		holdLaws(t, world(c), 40)
		if s := sample.ShowCode(secondThread(c)); s != x.want {
			t.Errorf("%s, read a second time, became\n%s, want\n%s", x.code, s, x.want)
		}
	}
}

// P9.1: the chapter's examples.
func TestExamples(t *testing.T) {
	hold(t, []row{
		{"i: jump to1 | jump to2 | return", "i: return"},
		{"il: branch to1 or2 | jump to3 | jump to3 | out a1, return", "il: out a1, return"},
		{"il: out a1, jump to1 | jump to2 | jump to1", "il: out a1, jump to1 | jump to1"},
		{"il: out a1, branch or2 | return | return", "il: out a1, branch or1 | return"},
	})
}

// P9.1: a function with nothing to be removed stays as it is.
func TestWhatStays(t *testing.T) {
	hold(t, []row{
		{"i: return", ""},
		{"i: jump", ""},
		{"i: get, jump", ""},
		{"i: branch or1 | return", ""},
		{"i: branch to1 or2 | return | return", ""},
		{"i: branch to1 or2 | set, return | set, return", ""},
		{"i: branch to1 or2 | set, jump to3 | get, jump to3 | return", ""},
		{"i: get, branch to1 or2 | set, jump | return", ""},
		{"i: branch to1 or2 | jump to1 | return", ""},
		{"i: branch to1 or2 | branch to2 or1 | branch to1 or2", ""},
		{"i: get, jump to1 | set, branch to1 or2 | return", ""},
	})
}

// P9.1: ends lead to final targets.
func TestFinalTargets(t *testing.T) {
	hold(t, []row{
		{"i: get, branch to1 or2 | jump to3 | return | get, jump to4 | branch to3", "i: get, branch to2 or1 | return | get, branch to2"},
		{"i: branch to1 or2 | jump to2 | set, branch to1 or3 | return", "i: jump to1 | set, branch to1 or2 | return"},
		{"i: branch to1 or4 | jump to2 | jump to3 | set, branch to1 or2 | return", "i: branch to1 or2 | set, jump to1 | return"},
		{"i: branch to1 or2 | jump to3 | jump to4 | set, return | get, return", "i: branch to1 or2 | set, return | get, return"},
		{"i: branch to3 or2 | set, return | jump to1 | jump to4 | get, branch to1 or4", "i: branch to2 or1 | set, return | get, branch to1 or2"},
		{"i: branch to1 or3 | set, jump to2 | jump to1 | return", "i: branch to1 or2 | set, jump to1 | return"},
		{"i: branch to1 or2 | jump | return", "i: branch or1 | return"},
		{"i: jump to1 | set, branch or2 | return", "i: jump to1 | set, branch to1 or2 | return"},
		{"i: jump to2 | return | set, branch to3 or1 | jump", "i: jump to2 | return | set, branch to2 or1"},
	})
}

// P9.1: bare blocks in a cycle all lead to the lowest one of it, also those ahead of the cycle, however low they are.
func TestCycles(t *testing.T) {
	hold(t, []row{
		{"i: jump to1 | jump", "i: jump"},
		{"i: jump to2 | jump | jump to1", "i: jump"},
		{"i: jump to1 | jump to1", ""},
		{"i: jump to1 | jump to2 | jump to1", "i: jump to1 | jump to1"},
		{"i: jump to2 | jump to2 | jump to3 | jump to2", "i: jump to1 | jump to1"},
		{"i: get, jump to1 | jump to3 | jump to4 | jump to2 | jump to3", "i: get, jump to1 | jump to1"},
		{"i: get, jump to4 | jump to2 | jump to3 | jump to1 | jump to3", "i: get, jump to1 | jump to1"},
		{"i: branch to1 or3 | jump to2 | jump to1 | jump to4 | jump to3", "i: branch to1 or2 | jump to1 | jump to2"},
		{"i: branch to1 or3 | jump to2 | jump to3 | jump to1", "i: jump to1 | jump to1"},
		{"i: branch to2 or1 | return | jump to3 | jump to2", "i: branch to2 or1 | return | jump to2"},
		{"i: branch to1 or2 | jump to1 | jump to2", ""},
		{"i: branch to1 or2 | jump to2 | jump to2", "i: jump to1 | jump to1"},
		{"i: branch to1 or1 | jump to2 | jump", "i: jump"},
		{"i: jump to1 | jump to2 | get, jump to1", "i: jump to1 | get, jump to1"},
		{"i: jump to1 | jump to2 | get, jump", "i: jump to1 | get, jump to1"},
	})
}

// P9.1: a Branch with one way becomes a Jump without other fields, and that may make a block bare, for the next pass.
func TestBranches(t *testing.T) {
	hold(t, []row{
		{"ii: get, branch a1 to1 or1 | set, jump to1", "ii: get, jump to1 | set, jump to1"},
		{"ii: get, branch a1", "ii: get, jump"},
		{"ii: branch a1", "ii: jump"},
		{"ii: get, branch a1 to1 or2 | jump to3 | jump to3 | set, jump to3", "ii: get, jump to1 | set, jump to1"},
		{"ii: get, branch a1 to1 or2 | jump to2 | set, jump to2", "ii: get, jump to1 | set, jump to1"},
		{"ii: get, branch a1 to2 or1 | jump to2 | set, jump to2", "ii: get, jump to1 | set, jump to1"},
		{"ii: get, branch a1 to1 or1 | return", "ii: get, return"},
		{"ii: branch a1 to1 or1 | branch a1 to2 or2 | branch a1 to3 or3 | return", "ii: return"},
		{"ii: get, branch a1 to1 or3 | branch to2 or2 | set, return | return", "ii: get, branch a1 to1 or2 | set, return | return"},
		{"ii: get, branch a1 to1 or2 | branch to2 or2 | set, jump to2", "ii: get, jump to1 | set, jump to1"},
		{"ii: get, branch a1 to1 or3 | branch to2 or2 | branch to3 or3 | set, jump to3", "ii: get, jump to1 | set, jump to1"},
		{"ii: get, branch a1 to1 or1 | branch a1 to1 or1", "ii: get, jump to1 | jump to1"},
		{"ii: get, branch a1 to1 or2 | branch a1 to2 or2 | branch a1 to1 or1", "ii: get, jump to1 | jump to1"},
		{"ii: get, branch a1 to2 or1 | branch a1 to2 or2 | branch a1 to1 or1", "ii: get, jump to1 | jump to1"},
		{"ii: branch a1 to1 or2 | branch or1 | branch to2", ""},
		{"ii: branch a1 or1 | branch a1", "ii: jump"},
	})
}

// P9.1: blocks that no path reaches are removed, and their ends are no edges.
func TestUnreachableBlocks(t *testing.T) {
	hold(t, []row{
		{"i: return | return", "i: return"},
		{"i: jump | jump | get, return", "i: jump"},
		{"i: return | jump to2 | jump to1", "i: return"},
		{"i: return | get, jump to2 | set, jump to1", "i: return"},
		{"i: return | get, jump", "i: return"},
		{"i: branch to2 or4 | return | set, return | get, jump to2 | get, return", "i: branch to1 or2 | set, return | get, return"},
		{"i: get, jump to2 | get, jump to2 | set, return", "i: get, set, return"},
		{"i: get, jump to2 | branch to2 or3 | set, return | jump to2", "i: get, set, return"},
		{"i: get, jump to1 | set, return | get, branch to1 or2", "i: get, set, return"},
		{"i: get, jump to1 | set, return | jump to1", "i: get, set, return"},
	})
}

// P9.1: a block takes in the one to which it jumps alone, and goes on from there.
func TestMerging(t *testing.T) {
	hold(t, []row{
		{"i: get, jump to1 | set, return", "i: get, set, return"},
		{"i: jump to1 | set, return", "i: set, return"},
		{"i: get, jump to1 | return", "i: get, return"},
		{"i: get, jump to1 | get, set, jump to2 | set, return", "i: get, get, set, set, return"},
		{"i: get, jump to2 | set, return | const n5, jump to1", "i: get, const n5, set, return"},
		{"i: get, jump to3 | set, return | const n5, jump to1 | const n6, jump to2", "i: get, const n6, const n5, set, return"},
		{"i: get, jump to1 | set, branch to2 or3 | return | get, return", "i: get, set, branch to1 or2 | return | get, return"},
		{"i: get, jump to1 | set, branch or2 | return", "i: get, set, branch or1 | return"},
		{"i: get, jump to1 | set, jump", "i: get, set, jump"},
		{"i: get, jump to1 | set, jump to2 | const n5, jump", "i: get, set, const n5, jump"},
		{"i: get, jump to1 | set, jump to2 | const n5, jump to1", "i: get, jump to1 | set, const n5, jump to1"},
		{"i: get, jump to2 | set, jump to2 | const n5, jump to1", "i: get, jump to1 | const n5, set, jump to1"},
		{"i: branch to2 or3 | set, return | get, jump to1 | get, jump to1", ""},
		{"i: branch to2 or3 | set, return | get, jump to1 | get, return", "i: branch to1 or2 | get, set, return | get, return"},
		{"i: branch to1 or2 | get, jump to3 | const n5, jump to4 | set, return | return", "i: branch to1 or2 | get, set, return | const n5, return"},
		{"i: branch to1 or2 | get, jump | set, jump", ""},
		{"i: branch to1 or3 | get, jump to2 | set, jump to1 | return", "i: branch to1 or2 | get, set, jump to1 | return"},
		{"i: branch to2 or3 | set, jump to2 | get, jump to1 | return", "i: branch to1 or2 | get, set, jump to1 | return"},
		{"i: branch to1 or2 | get, jump to3 | get, jump to3 | set, return", ""},
		{"i: get, jump to1 | branch to2 or3 | return | branch to1 or2", ""},
	})
}

// P9.1: instructions and ends are moved as they are, with the fields that they do not use.
func TestOtherFieldsStay(t *testing.T) {
	hold(t, []row{
		{"ii: get a1 b1, jump a1 to1 or1 | set b1 +, return to1 or1", "ii: get a1 b1, set b1 +, return to1 or1"},
		{"ii: get, jump a1 or1 | return", "ii: get, jump a1 or1"},
		{"ii: get, jump a1 to2 or2 | return | set, jump a1 to2 or1", "ii: get, jump a1 to1 or2 | set, jump a1 to1 or1"},
		{"ii: branch a1 to2 or3 | return | return to2 or3 | return a1 to1 or2", "ii: branch a1 to1 or2 | return to2 or3 | return a1 to1 or2"},
		{"ii: call d1 1 0, jump to1 | call d-7 0 1, jump to2 | call 1 1, return a1", "ii: call d1 1 0, call d-7 0 1, call 1 1, return a1"},
		{"ii: get, branch to2 or4 | return | jump a1 to3 or1 | set, jump a1 to2 or2 | return", "ii: get, branch to1 or2 | set, jump a1 to1 or2 | return"},
	})
	c := api.Code{Name: "some", Type: api.Long, Params: 2, Regs: []int{api.Long, api.Int, api.Long}, Blocks: []api.Block{
		{End: api.End{Kind: api.Jump, To: 1}},
		{End: api.End{Kind: api.Return, A: 2}},
	}}
	want := c
	want.Blocks = c.Blocks[1:]
	if got := Thread(c); !sample.SameCode(got, want) {
		t.Errorf("%v, want %v", got, want)
	}
}

// P9.1: a Return without a register stays one.
func TestReturnOfNothing(t *testing.T) {
	for _, a := range []int{-1, -2, -1 << 63} {
		c := sample.Code("i: get, jump to2 | return | jump to3 | return")
		c.Type = api.Void
		c.Blocks[3].End.A = a
		got := Thread(c)
		if len(got.Blocks) != 1 || len(got.Blocks[0].Code) != 1 || got.Blocks[0].End != (api.End{Kind: api.Return, A: a}) {
			t.Error(sample.ShowCode(got))
		}
	}
}
