package wasm

import (
	"testing"

	"mortise/api"
	"mortise/sample"
)

// R1: 2^16 levels of nesting are no error, and may be left at once.
func TestDeepNesting(t *testing.T) {
	const levels = 1 << 16
	leave := sample.Lists("const t1 n7, return")[0]
	for _, op := range []int{api.WBlock, api.WLoop, api.WIf} {
		f := api.WFunc{Type: api.Int, Lists: sample.Nested(levels, leave, op)}
		f.Lists[levels] = append(f.Lists[levels], api.W{Op: api.WConst, Type: api.Int, N: 8})
		steps := levels + 2
		if op == api.WIf {
			steps += levels
		}
		m := api.WModule{Funcs: []api.WFunc{f}}
		if wrong := Check(m); wrong != api.OK {
			t.Fatal(wrong)
		}
		if run := Run(m, nil, steps); !sample.SameRun(run, done(7)) {
			t.Error(run)
		}
		if run := Run(m, nil, steps-1); !sample.SameRun(run, api.Run{Status: api.Going}) {
			t.Error(run)
		}
		for n, want := range map[int]api.Errno{levels: api.OK, levels + 1: api.ErrRange} {
			f.Lists[0] = []api.W{{Op: api.WConst, Type: api.Int, N: 7}, {Op: api.WBr, N: n}}
			if wrong := Check(m); wrong != want {
				t.Errorf("branch to %d: error %d", n, wrong)
			}
		}
	}
}

// R1: deep lists in each of the open calls.
func TestDeepNestingInCalls(t *testing.T) {
	const levels = 1 << 14
	f := function(api.Int, "const t1")
	f.Lists = sample.Nested(levels, sample.Lists("call n3, drop")[0], api.WBlock)
	f.Lists[levels] = append(f.Lists[levels], api.W{Op: api.WConst, Type: api.Int})
	if run := Run(api.WModule{Funcs: []api.WFunc{f}}, nil, 1<<30); !sample.SameRun(run, trapped(api.TrapCalls)) {
		t.Error(run)
	}
}

// P12.2, P12.3: a long list, with much on the stack, and a function with many parameters.
func TestLongLists(t *testing.T) {
	const count = 1 << 16
	f := api.WFunc{Type: api.Long, Lists: [][]api.W{nil}}
	for k := range count {
		f.Params = append(f.Params, api.Long)
		f.Lists[0] = append(f.Lists[0], api.W{Op: api.WGet, N: k})
	}
	for range count - 1 {
		f.Lists[0] = append(f.Lists[0], api.W{Op: api.WBin, Type: api.Long, S: "add"})
	}
	main := api.WFunc{Type: api.Int, Lists: [][]api.W{nil}}
	for k := range count {
		main.Lists[0] = append(main.Lists[0], api.W{Op: api.WConst, Type: api.Long, N: k})
	}
	main.Lists[0] = append(main.Lists[0], sample.Lists("call n4, call n1, const t1 n3")[0]...)
	m := api.WModule{Funcs: []api.WFunc{main, f}}
	if run := Run(m, nil, 3*count+2); !sample.SameRun(run, done(3, count*(count-1)/2)) {
		t.Error(run)
	}
	// behind what leaves the list all of them count as present, however often that is asked for
	main.Lists[0] = []api.W{{Op: api.WTrap}}
	for range count {
		main.Lists[0] = append(main.Lists[0], api.W{Op: api.WCall, N: 4}, api.W{Op: api.WDrop})
	}
	if wrong := Check(m); wrong != api.OK {
		t.Error(wrong)
	}
}

// R5: no steps are none, however few.
func TestNoSteps(t *testing.T) {
	for _, steps := range []int{-1 << 63, -5, -1, 0} {
		if run := Run(alone("const t1 n7"), nil, steps); !sample.SameRun(run, api.Run{Status: api.Going}) {
			t.Error(steps, run)
		}
	}
}
