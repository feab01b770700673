package opt

import (
	"slices"
	"testing"

	"mortise/api"
	"mortise/ir"
	"mortise/sample"
	"mortise/stock"
)

// ways are the ways to change a module that must keep what it does.
func ways() map[string][]func(api.Code) api.Code {
	return map[string][]func(api.Code) api.Code{
		"Fold": {Fold}, "Dead": {Dead}, "Fold and Dead": {Fold, Dead}, "Dead and Fold": {Dead, Fold}, "both twice": {Fold, Dead, Fold, Dead},
	}
}

// P8.3: the functions of a valid module may be replaced, all of them or each alone.
func TestValidity(t *testing.T) {
	for name, m := range stock.Modules {
		for way, l := range ways() {
			better := sample.Changed(m, l...)
			if no := ir.Check(better); no != api.OK {
				t.Fatalf("seed %d, %s: error %d\n%s", name, way, no, sample.ShowModule(better))
			}
			for k := range m.Funcs {
				one := api.Module{Globals: m.Globals, Funcs: slices.Clone(m.Funcs)}
				one.Funcs[k] = better.Funcs[k]
				if no := ir.Check(one); no != api.OK {
					t.Fatalf("seed %d, %s of function %d: error %d", name, way, k, no)
				}
			}
		}
	}
}

// holdRuns holds P8.4 for the runs of a module with some steps, and is its run before.
func holdRuns(t *testing.T, name int, way string, m, better api.Module, input []int, steps int) api.Run {
	t.Helper()
	want, got := ir.Run(m, input, steps), ir.Run(better, input, steps)
	if !sample.Keeps(want, got) {
		t.Fatalf("seed %d, %s, input %v, %d steps: %v, want %v", name, way, input, steps, got, want)
	}
	return want
}

// P8.4: made modules do the same in no more steps.
func TestPreservation(t *testing.T) {
	ended := sample.Ended{}
	for name, m := range stock.Modules {
		for way, l := range ways() {
			better := sample.Changed(m, l...)
			for _, input := range sample.Inputs() {
				for _, steps := range []int{name&63 + 1, 300, 3000} {
					run := holdRuns(t, name, way, m, better, input, steps)
					ended.Add(run)
				}
			}
		}
	}
	if rare := ended.Rare(100); len(rare) > 0 {
		t.Error("few runs ended so:", rare)
	}
}

// P8.4: the same after each of the first steps; and what a run outputs earlier than before is what it would have been.
func TestEachStep(t *testing.T) {
	fewer := 0
	for seed := range 300 {
		m := sample.Module(seed, seed%5)
		better := sample.Changed(m, Fold, Dead)
		input := sample.Inputs()[1]
		whole := ir.Run(m, input, 20000)
		for steps := range 200 {
			before := holdRuns(t, seed, "Fold and Dead", m, better, input, steps)
			run := ir.Run(better, input, steps)
			isWithin := len(run.Out) <= len(whole.Out) && slices.Equal(run.Out, whole.Out[:len(run.Out)])
			if whole.Status != api.Going && (!isWithin || run.Status != api.Going && !sample.SameRun(run, whole)) {
				t.Fatalf("seed %d, %d steps: %v, want within %v", seed, steps, run, whole)
			}
			if before.Status == api.Going && run.Status != api.Going {
				fewer++
			}
		}
	}
	if fewer < 500 {
		t.Errorf("only %d runs ended earlier", fewer)
	}
}

// R3, R4: a function stays as it is, also behind its lists' ends; what becomes of it is new memory; and the same again.
func TestArgumentsStayAsTheyAre(t *testing.T) {
	for seed := range 500 {
		for _, c := range sample.Module(seed, seed%5).Funcs {
			for name, change := range changes() {
				if wrong := sample.Apart(change, c); wrong != "" {
					t.Fatalf("seed %d, %s: %s", seed, name, wrong)
				}
			}
		}
	}
}

// R3: no two lists of what becomes of a function share memory.
func TestListsAreApart(t *testing.T) {
	args := []int{0, 0}
	call := api.Instr{Op: api.ICall, Dst: -1, Args: args}
	code := []api.Instr{call, call, {Op: api.IOut, Args: args}}
	c := api.Code{Regs: args, Blocks: []api.Block{{Code: code, End: api.End{Kind: api.Jump}}, {Code: code, End: api.End{Kind: api.Jump}}}}
	for name, change := range changes() {
		got := change(c)
		got.Regs[0] = 1
		for at, b := range got.Blocks {
			for k := range b.Code {
				b.Code[k].Args = append(b.Code[k].Args[:1], 10*at+k)
				b.Code[k].N = 10*at + k
			}
		}
		for at, b := range got.Blocks {
			for k, i := range b.Code {
				if i.N != 10*at+k || !slices.Equal(i.Args, []int{0, 10*at + k}) {
					t.Errorf("%s: instruction %d of block %d is %v", name, k, at, i)
				}
			}
		}
		if !slices.Equal(args, []int{0, 0}) {
			t.Errorf("%s: the arguments are %v", name, args)
		}
	}
}

// The rules of the language: what ir.Check never accepts becomes something or nothing, but without a panic, and not forever.
func TestFunctionsThatAreNone(t *testing.T) {
	for c := range sample.Strange {
		for _, change := range changes() {
			change(c)
		}
	}
	for _, change := range changes() {
		if got := change(api.Code{}); !sample.SameCode(got, api.Code{}) {
			t.Error(got)
		}
	}
	many := api.Code{Regs: make([]int, 1<<20), Blocks: make([]api.Block, 1<<20)}
	if got := Dead(many); !sample.SameCode(got, api.Code{}) {
		t.Error("a function with too many blocks became something")
	}
	if got := Fold(many); len(got.Blocks) != 1<<20 {
		t.Error(len(got.Blocks))
	}
}

func TestSpoiledModules(t *testing.T) {
	for seed, m := range sample.Spoiled(6000) {
		isValid := ir.Check(m) == api.OK
		for way, l := range ways() {
			better := sample.Changed(m, l...)
			if isValid && ir.Check(better) != api.OK {
				t.Fatalf("seed %d, %s: error %d", seed, way, ir.Check(better))
			}
			if isValid {
				holdRuns(t, seed, way, m, better, sample.Inputs()[1], 500)
			}
		}
	}
}

// P8.1, P8.2: a long block in which much is known at once: thousands of registers are equal to one that is written again and again.
func TestLongBlock(t *testing.T) {
	const rounds = 64
	c := api.Code{Type: api.Int, Regs: slices.Repeat([]int{api.Int}, 4096), Blocks: make([]api.Block, 1)}
	b := &c.Blocks[0]
	for range rounds {
		b.Code = append(b.Code, api.Instr{Op: api.IGet})
		for k := range 4095 {
			b.Code = append(b.Code, api.Instr{Op: api.ICopy, Dst: k + 1, A: k})
		}
	}
	b.End = api.End{Kind: api.Return, A: 4095}
	got := Fold(c)
	for k, i := range got.Blocks[0].Code {
		if i.A != 0 || i.Dst != k%4096 {
			t.Fatal(k, i)
		}
	}
	if got.Blocks[0].End.A != 0 {
		t.Error(got.Blocks[0].End)
	}
	if n := len(Dead(got).Blocks[0].Code); n != rounds { // no copy is read
		t.Error(n)
	}
	if n := len(Dead(c).Blocks[0].Code); n != 4096*rounds-(rounds-1) { // of each round but the last one the last copy is not read
		t.Error(n)
	}
}

// P8.2: what is live goes through as many blocks as there may be, each of which goes to the one ahead of it.
func TestLongWay(t *testing.T) {
	c := api.Code{Type: api.Int, Regs: slices.Repeat([]int{api.Int}, 4096), Blocks: make([]api.Block, 400)}
	for k := range c.Blocks {
		c.Blocks[k] = api.Block{Code: []api.Instr{{Op: api.IConst, Dst: k}}, End: api.End{Kind: api.Jump, To: k - 1}}
	}
	c.Blocks[0] = api.Block{Code: []api.Instr{{Op: api.IBin, Type: api.Int, S: "+", A: 398, B: 200}}, End: api.End{Kind: api.Return, A: 399}}
	got := Dead(c)
	if len(got.Blocks) != 400 || len(got.Regs) != 4096 {
		t.Fatal(len(got.Blocks), len(got.Regs))
	}
	for k, b := range got.Blocks {
		if want := k == 399 || k == 398 || k == 200; len(b.Code) == 1 != want {
			t.Error(k, b.Code)
		}
	}
}
