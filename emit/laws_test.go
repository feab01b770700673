package emit

import (
	"math/rand"
	"slices"
	"sort"
	"testing"

	"mortise/api"
	"mortise/clone"
	"mortise/dom"
	"mortise/ir"
	"mortise/sample"
	"mortise/stock"
	"mortise/wasm"
)

// factor is K of P14.5: here even with the blocks of the function that has the most of them.
func factor(m api.Module) int {
	blocks, args := 0, 0
	for _, c := range m.Funcs {
		blocks = max(blocks, len(c.Blocks))
		for _, b := range c.Blocks {
			for _, i := range b.Code {
				args = max(args, len(i.Args))
			}
		}
	}
	return 40 + 2*blocks + args
}

// mostSteps is how many steps the runs of these tests may take.
const mostSteps = 2000

// holdRuns holds P14.5 for what became of a module, after each of the first steps, where each run ends, and after many; it is how the runs end.
func holdRuns(t *testing.T, m api.Module, w api.WModule, first int) []api.Run {
	t.Helper()
	k := factor(m)
	var ends []api.Run
	for _, input := range sample.Inputs() {
		end := sort.Search(mostSteps, func(n int) bool { return ir.Run(m, input, n).Status != api.Going })
		steps := []int{end - 1, end, mostSteps}
		for n := range first {
			steps = append(steps, n)
		}
		for _, n := range steps {
			want, got := ir.Run(m, input, n), wasm.Run(w, input, k*(n+1))
			if !sample.Keeps(want, got) {
				t.Fatalf("input %v, %d steps: %v, want %v\n%.900s", input, n, got, want, sample.ShowModule(m))
			}
		}
		ends = append(ends, ir.Run(m, input, mostSteps))
	}
	return ends
}

// P14.1, P14.4 to P14.6: made modules and lowered programs; those with a loop with several entries are refused, before and not after dom.Split.
func TestLaws(t *testing.T) {
	ended, refused := sample.Ended{}, 0
	for name, m := range stock.Modules {
		if slices.ContainsFunc(m.Funcs, func(c api.Code) bool { return !dom.Reducible(c) }) {
			refuses(t, api.ErrSplit, m)
			refused++
		}
		m, ok := oneEntry(m)
		if !ok {
			continue
		}
		w := emitted(t, m)
		holdSecond(t, m)
		for _, run := range holdRuns(t, m, w, 8) {
			ended.Add(run)
		}
		if t.Failed() {
			t.Fatal(name)
		}
	}
	if rare := ended.Rare(30); len(rare) > 0 || refused < 50 {
		t.Error("few runs ended so:", rare, ended, refused)
	}
}

// P14.1, P14.4 to P14.6: the same for functions of blocks that lead anywhere, which go different ways by their input.
func TestLawsOfTangles(t *testing.T) {
	random := rand.New(rand.NewSource(14))
	held := 0
	for seed := range 3000 {
		m, ok := oneEntry(alone(sample.Tangle(seed, 3+seed%14)))
		if !ok {
			continue
		}
		held++
		w := emitted(t, m)
		holdSecond(t, m)
		input := make([]int, 30)
		for k := range input {
			input[k] = random.Intn(2)
		}
		for n := range 60 {
			want, got := ir.Run(m, input, n), wasm.Run(w, input, factor(m)*(n+1))
			if !sample.Keeps(want, got) {
				t.Fatalf("seed %d, input %v, %d steps: %v, want %v", seed, input, n, got, want)
			}
		}
	}
	if held < 1500 {
		t.Error(held)
	}
}

// P14.1, P14.4, P14.6: all functions of up to three blocks.
func TestSmall(t *testing.T) {
	for count := 1; count <= 3; count++ {
		for c := range sample.Small(count, true) {
			m := alone(c)
			if !dom.Reducible(c) {
				refuses(t, api.ErrSplit, m)
				continue
			}
			emitted(t, m)
			holdSecond(t, m)
		}
	}
}

// P14.1: spoiled modules that are still valid; R1: of the others nothing is promised, but that there is an answer.
func TestSpoiledModules(t *testing.T) {
	valid := 0
	for _, m := range sample.Spoiled(6000) {
		isValid := ir.Check(m) == api.OK
		Emit(m)
		Better(m, 15)
		for k := range m.Funcs {
			if m.Funcs[k].Name == "" { // no tag: there is no text of it
				m.Funcs[k].Name = "e"
			}
		}
		m, ok := oneEntry(m)
		if !isValid || !ok {
			continue
		}
		holdSecond(t, m)
		if w, no := Emit(m); no == api.OK {
			valid++
			emitted(t, m)
			holdRuns(t, m, w, 0)
		}
	}
	if valid < 500 {
		t.Errorf("only %d modules were valid", valid)
	}
}

// R1: whatever is in a module, there is an answer.
func TestStrangeModules(t *testing.T) {
	Emit(api.Module{})
	Better(api.Module{}, 15)
	for c := range sample.Strange {
		for _, m := range []api.Module{alone(c), {Globals: []api.Global{{Type: c.Type, Size: c.Params}, {Type: 77}}, Funcs: []api.Code{c, mainOf("i: return")}}} {
			w, no := Emit(m)
			if no != api.OK && !sample.SameWasm(w, api.WModule{}) {
				t.Fatal(sample.ShowModule(m), no)
			}
			for settings := range 16 {
				Better(m, settings)
			}
		}
	}
	for _, code := range []string{"i: const d7, return", "i: const, conv t1 a7, return", "i: get n9, return", "il: load a1 n-1, return", "i: call d-1 n99, return", "i: jump to1"} {
		if w, _ := Emit(world(code)); !sample.SameWasm(w, api.WModule{}) {
			t.Errorf("%s: %s", code, sample.ShowWasm(w))
		}
	}
	for _, count := range []int{0, api.MaxBlocks + 1, 1 << 20} {
		m := alone(api.Code{Name: "main", Type: api.Int, Regs: []int{api.Int}, Blocks: make([]api.Block, count)})
		if w, no := Emit(m); !sample.SameWasm(w, api.WModule{}) {
			t.Errorf("%d blocks: error %d", count, no)
		}
		Better(m, 15)
	}
}

// room is a module whose lists of globals and functions have memory behind their ends, which is not 0.
func room(m api.Module) api.Module {
	m.Globals = append(slices.Clone(m.Globals), api.Global{Name: "behind"})[:len(m.Globals)]
	m.Funcs = append(slices.Clone(m.Funcs), api.Code{Name: "behind"})[:len(m.Funcs)]
	return m
}

// R3, R4: a module stays as it is, also behind its lists' ends; what becomes of it is new memory, no two lists of which share any; and the same again.
func TestArgumentsStayAsTheyAre(t *testing.T) {
	asItIs := func(c api.Code) api.Code {
		Emit(alone(c))
		return clone.Code(c)
	}
	for seed := range 600 {
		m, ok := oneEntry(sample.Module(seed, seed%5))
		if !ok {
			continue
		}
		m = room(m)
		before := sample.ShowModule(api.Module{Globals: m.Globals[:cap(m.Globals)], Funcs: m.Funcs[:cap(m.Funcs)]})
		first, _ := Emit(m)
		second, _ := Emit(m)
		for settings := range 16 {
			Better(m, settings)
		}
		if sample.ShowModule(api.Module{Globals: m.Globals[:cap(m.Globals)], Funcs: m.Funcs[:cap(m.Funcs)]}) != before {
			t.Fatalf("seed %d: the module was changed", seed)
		}
		if !sample.WasmIsApart(first, second) || !sample.SameWasm(first, second) {
			t.Fatalf("seed %d: modules share memory, or are not the same", seed)
		}
		for k, c := range m.Funcs {
			if wrong := sample.Apart(asItIs, c); wrong != "" {
				t.Fatalf("seed %d, function %d: %s", seed, k, wrong)
			}
			clear(c.Regs[:cap(c.Regs)])
		}
		if !sample.SameWasm(first, second) {
			t.Fatalf("seed %d: registers are shared", seed)
		}
		third, _ := Emit(m)
		for _, f := range first.Funcs {
			clear(f.Params[:cap(f.Params)])
			clear(f.Locals[:cap(f.Locals)])
		}
		if fourth, _ := Emit(m); !sample.SameWasm(third, fourth) {
			t.Fatalf("seed %d: registers were changed", seed)
		}
	}
}
