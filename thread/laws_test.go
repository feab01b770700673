package thread

import (
	"math/rand"
	"slices"
	"testing"

	"mortise/api"
	"mortise/ir"
	"mortise/opt"
	"mortise/sample"
	"mortise/stock"
)

// countInstructions is how many instructions a function has.
func countInstructions(c api.Code) int {
	n := 0
	for _, b := range c.Blocks {
		n += len(b.Code)
	}
	return n
}

// holdMinimal holds P9.3 for what became of a function.
func holdMinimal(t *testing.T, before, after api.Code) {
	t.Helper()
	if again := Thread(after); !sample.SameCode(again, after) {
		t.Fatalf("%s\nbecame, once more,\n%s", sample.ShowCode(after), sample.ShowCode(again))
	}
	if len(after.Blocks) > len(before.Blocks) || countInstructions(after) > countInstructions(before) {
		t.Fatalf("%s\nbecame more: %s", sample.ShowCode(before), sample.ShowCode(after))
	}
	r := reading{blocks: after.Blocks}
	for k, isReached := range r.reachable() {
		if !isReached {
			t.Fatalf("block %d of %s is unreachable", k, sample.ShowCode(after))
		}
		for _, to := range tos(&after.Blocks[k].End) {
			if r.isBare(*to) && *to != 0 && after.Blocks[*to].End.To != *to {
				t.Fatalf("block %d of %s leads to a bare block", k, sample.ShowCode(after))
			}
		}
	}
}

// holdRuns holds P9.2 for the runs of a module with some steps, and is its run before.
func holdRuns(t *testing.T, m, threaded api.Module, input []int, steps int) api.Run {
	t.Helper()
	want, got := ir.Run(m, input, steps), ir.Run(threaded, input, steps)
	if !sample.Keeps(want, got) {
		t.Fatalf("input %v, %d steps: %v, want %v\n%s", input, steps, got, want, sample.ShowModule(m))
	}
	return want
}

// holdLaws holds P9.2 and P9.3 for a module; its runs are held after each of the first steps, up to most.
func holdLaws(t *testing.T, m api.Module, most int) {
	t.Helper()
	threaded := sample.Changed(m, Thread)
	if no := ir.Check(threaded); no != api.OK {
		t.Fatalf("error %d\n%s", no, sample.ShowModule(threaded))
	}
	for k, c := range m.Funcs {
		holdMinimal(t, c, threaded.Funcs[k])
	}
	for _, input := range sample.Inputs() {
		for steps := range most + 1 {
			holdRuns(t, m, threaded, input, steps)
		}
	}
}

// P9.2, P9.3: made modules and lowered programs, as they are and after opt, are accepted, do the same in no more steps, and are as small as can be; also if only one function is threaded.
func TestLaws(t *testing.T) {
	ended := sample.Ended{}
	for name, m := range stock.Modules {
		for _, m := range []api.Module{m, sample.Changed(m, opt.Fold, opt.Dead)} {
			threaded := sample.Changed(m, Thread)
			holdLaws(t, m, 10)
			for k := range m.Funcs {
				one := api.Module{Globals: m.Globals, Funcs: slices.Clone(m.Funcs)}
				one.Funcs[k] = threaded.Funcs[k]
				if no := ir.Check(one); no != api.OK {
					t.Fatalf("%d: error %d by function %d", name, no, k)
				}
				holdRuns(t, m, one, sample.Inputs()[1], 300)
			}
			for _, input := range sample.Inputs() {
				run := holdRuns(t, m, threaded, input, 3000)
				ended.Add(run)
			}
		}
	}
	if rare := ended.Rare(50); len(rare) > 0 {
		t.Error("few runs ended so:", rare)
	}
}

// P9.2, P9.3: tangles go different ways by their input; many runs of them take fewer steps.
func TestLawsOfTangles(t *testing.T) {
	random := rand.New(rand.NewSource(9))
	fewer := 0
	for seed := range 2000 {
		m := api.Module{Funcs: []api.Code{tangle(seed)}}
		holdLaws(t, m, 30)
		threaded := sample.Changed(m, Thread)
		for range 4 {
			input := make([]int, 12)
			for k := range input {
				input[k] = random.Intn(2)
			}
			for steps := range 60 {
				before := holdRuns(t, m, threaded, input, steps)
				if before.Status == api.Going && ir.Run(threaded, input, steps).Status != api.Going {
					fewer++
				}
			}
		}
	}
	if fewer < 500 {
		t.Errorf("only %d runs ended earlier", fewer)
	}
}

// R3, R4: a function stays as it is, also behind its lists' ends; what becomes of it is new memory; and the same again.
func TestArgumentsStayAsTheyAre(t *testing.T) {
	for seed := range 1000 {
		for _, c := range append(sample.Module(seed, seed%5).Funcs, tangle(seed)) {
			if wrong := sample.Apart(Thread, c); wrong != "" {
				t.Fatalf("seed %d: %s", seed, wrong)
			}
		}
	}
}

// R3: no two lists of what becomes of a function share memory, even if those of the function do.
func TestListsAreApart(t *testing.T) {
	args := []int{0, 0}
	call := api.Instr{Op: api.ICall, Dst: -1, Args: args}
	code := []api.Instr{call, call, {Op: api.IOut, Args: args}}
	c := api.Code{Regs: args, Blocks: []api.Block{
		{Code: code, End: api.End{Kind: api.Jump, To: 3}},
		{Code: code, End: api.End{Kind: api.Jump, To: 1}},
		{Code: code, End: api.End{Kind: api.Jump, To: 1}},
		{Code: code, End: api.End{Kind: api.Branch, To: 1, Else: 2}},
	}}
	got := Thread(c)
	if len(got.Blocks) != 3 || countInstructions(got) != 12 {
		t.Error(sample.ShowCode(got))
	}
	if !sample.ListsAreApart(got) {
		t.Error("lists share memory")
	}
}

// The rules of the language: what ir.Check never accepts becomes something or nothing, but without a panic, and not forever.
func TestFunctionsThatAreNone(t *testing.T) {
	for c := range sample.Strange {
		Thread(c)
	}
	for _, code := range []string{"i: jump to1", "i: jump to-1", "i: get, branch to1 or2 | return", "i: branch or-1", "i: return | jump to7", "i: jump to1 | jump to2 | jump to-5"} {
		if got := Thread(sample.Code(code)); len(got.Blocks) > len(sample.Code(code).Blocks) {
			t.Error(code, sample.ShowCode(got))
		}
	}
	for _, count := range []int{401, 1 << 20} {
		if got := Thread(api.Code{Name: "f", Regs: []int{1}, Blocks: make([]api.Block, count)}); !sample.SameCode(got, api.Code{}) {
			t.Errorf("%d blocks became something", count)
		}
	}
}

func TestSpoiledModules(t *testing.T) {
	valid := 0
	for seed, m := range sample.Spoiled(6000) {
		isValid := ir.Check(m) == api.OK
		threaded := sample.Changed(m, Thread)
		if !isValid {
			continue
		}
		valid++
		if no := ir.Check(threaded); no != api.OK {
			t.Fatalf("seed %d: error %d", seed, no)
		}
		holdRuns(t, m, threaded, sample.Inputs()[1], 500)
		for _, c := range m.Funcs {
			holdSecond(t, seed, c, &deeds{})
		}
	}
	if valid < 500 {
		t.Errorf("only %d modules were valid", valid)
	}
}

// many is a function of as many blocks as there may be, each with an end, and with an instruction of its number, or none.
func many(hasCode bool, end func(k int) api.End) api.Code {
	c := api.Code{Name: "main", Type: api.Int, Regs: []int{api.Int}}
	for k := range api.MaxBlocks {
		b := api.Block{End: end(k)}
		if hasCode {
			b.Code = []api.Instr{{Op: api.IConst, N: k}}
		}
		c.Blocks = append(c.Blocks, b)
	}
	return c
}

// numbers are the N of a block's instructions.
func numbers(b api.Block) []int {
	var l []int
	for _, i := range b.Code {
		l = append(l, i.N)
	}
	return l
}

// P9.1: as many blocks as there may be, in chains and in cycles.
func TestManyBlocks(t *testing.T) {
	const last = api.MaxBlocks - 1
	up := func(k int) api.End {
		if k == last {
			return api.End{Kind: api.Return}
		}
		return api.End{Kind: api.Jump, To: k + 1}
	}
	down := func(k int) api.End {
		if k == 1 {
			return api.End{Kind: api.Return}
		}
		return api.End{Kind: api.Jump, To: (k + last) % api.MaxBlocks}
	}
	var ups, downs []int
	for k := range api.MaxBlocks {
		ups, downs = append(ups, k), append(downs, (api.MaxBlocks-k)%api.MaxBlocks)
	}
	for _, end := range []func(int) api.End{up, down} {
		if got := Thread(many(false, end)); sample.ShowCode(got) != "i: return" {
			t.Error(sample.ShowCode(got))
		}
	}
	if got := Thread(many(true, up)); len(got.Blocks) != 1 || !slices.Equal(numbers(got.Blocks[0]), ups) || got.Blocks[0].End.Kind != api.Return {
		t.Error(sample.ShowCode(got))
	}
	if got := Thread(many(true, down)); len(got.Blocks) != 1 || !slices.Equal(numbers(got.Blocks[0]), downs) || got.Blocks[0].End.Kind != api.Return {
		t.Error(sample.ShowCode(got))
	}
	round := func(k int) api.End { return api.End{Kind: api.Jump, To: k%last + 1} }
	if got := Thread(many(false, round)); sample.ShowCode(got) != "i: jump to1 | jump to1" {
		t.Error(sample.ShowCode(got))
	}
	if got := Thread(many(true, round)); len(got.Blocks) != 2 || !slices.Equal(numbers(got.Blocks[0]), ups[:1]) || !slices.Equal(numbers(got.Blocks[1]), ups[1:]) || got.Blocks[1].End.To != 1 {
		t.Error(sample.ShowCode(got))
	}
	both := func(k int) api.End { return api.End{Kind: api.Branch, To: (k + 1) % api.MaxBlocks, Else: k / 2} }
	if got := Thread(many(false, both)); !sample.SameCode(got, many(false, both)) {
		t.Error(sample.ShowCode(got))
	}
}

// P9.1: each pass lets only one Branch become a Jump, which the next one needs: there are hundreds of passes.
func TestManyPasses(t *testing.T) {
	const last = api.MaxBlocks - 1
	end := func(k int) api.End {
		switch k {
		case last:
			return api.End{Kind: api.Return}
		case last - 1:
			return api.End{Kind: api.Jump, To: last}
		}
		return api.End{Kind: api.Branch, To: k + 1, Else: k + 2}
	}
	if got := Thread(many(false, end)); sample.ShowCode(got) != "i: return" {
		t.Error(sample.ShowCode(got))
	}
	c := many(false, end)
	c.Blocks[0].Code, c.Blocks[last].Code = []api.Instr{{Op: api.IGet}}, []api.Instr{{Op: api.ISet}}
	if got := Thread(c); sample.ShowCode(got) != "i: get, set, return" {
		t.Error(sample.ShowCode(got))
	}
}
