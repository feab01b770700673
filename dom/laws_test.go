package dom

import (
	"math/rand"
	"slices"
	"testing"

	"mortise/api"
	"mortise/clone"
	"mortise/ir"
	"mortise/lower"
	"mortise/read"
	"mortise/sample"
	"mortise/stock"
)

// alone is a module of main alone.
func alone(c api.Code) api.Module { return api.Module{Funcs: []api.Code{c}} }

// manyBlocks is how many blocks a function of these tests may have after Split, where it is no matter that there may be more.
const manyBlocks = 60

// split is a function after Split, or as it is if that makes too many blocks.
func split(c api.Code) api.Code {
	if out, no := Split(c, manyBlocks); no == api.OK {
		return out
	}
	return clone.Code(c)
}

// holdOrder holds P10.6 for a function.
func holdOrder(t *testing.T, c api.Code) {
	t.Helper()
	order, doms := Order(c), Dom(c)
	hasBack := false
	for at, b := range c.Blocks {
		place := slices.Index(order, at)
		if place < 0 != (doms[at] < 0) || at > 0 && doms[at] >= 0 && slices.Index(order, doms[at]) >= place {
			t.Fatalf("%s: block %d, order %v, dominators %v", sample.ShowCode(c), at, order, doms)
		}
		for _, to := range Tos(b.End) {
			hasBack = hasBack || place >= 0 && slices.Index(order, to) <= place
		}
	}
	if hasBack == endsLeadDown(c) {
		t.Fatalf("%s: a back edge is there: %v", sample.ShowCode(c), hasBack)
	}
}

// endsLeadDown tells whether there is no loop: taking away blocks to which none of the others leads, again and again, leaves nothing.
func endsLeadDown(c api.Code) bool {
	left := map[int]api.End{}
	for _, at := range Order(c) {
		left[at] = c.Blocks[at].End
	}
	for range c.Blocks {
		isLed := map[int]int{}
		for _, e := range left {
			for _, to := range Tos(e) {
				isLed[to] = 1
			}
		}
		for at := range left {
			if isLed[at] == 0 {
				delete(left, at)
			}
		}
	}
	return len(left) == 0
}

// holdLaws holds P10.5 and P10.6 for a module; its runs are held after each of the first steps, up to most.
func holdLaws(t *testing.T, m api.Module, most int) {
	t.Helper()
	for _, c := range m.Funcs {
		got := split(c)
		if Reducible(c) && !sample.SameCode(got, c) {
			t.Fatalf("%s\nbecame\n%s", sample.ShowCode(c), sample.ShowCode(got))
		}
		if _, no := Split(c, manyBlocks); no == api.OK != Reducible(got) {
			t.Fatalf("%s\nbecame\n%s, error %d", sample.ShowCode(c), sample.ShowCode(got), no)
		}
		holdOrder(t, c)
		holdOrder(t, got)
	}
	after := sample.Changed(m, split)
	if no := ir.Check(after); no != api.OK {
		t.Fatalf("error %d\n%s", no, sample.ShowModule(after))
	}
	for _, input := range sample.Inputs() {
		for steps := range most + 1 {
			holdRuns(t, m, after, input, steps)
		}
	}
}

// holdRuns holds P10.5 for the runs of a module with some steps, and is its run.
func holdRuns(t *testing.T, m, after api.Module, input []int, steps int) api.Run {
	t.Helper()
	want, got := ir.Run(m, input, steps), ir.Run(after, input, steps)
	if !sample.SameRun(got, want) {
		t.Fatalf("input %v, %d steps: %v, want %v\n%s", input, steps, got, want, sample.ShowModule(m))
	}
	return want
}

// P10.5, P10.6: made modules and lowered programs.
func TestLaws(t *testing.T) {
	ended := sample.Ended{}
	copied := 0
	for _, m := range stock.Modules {
		holdLaws(t, m, 10)
		after := sample.Changed(m, split)
		for k := range m.Funcs {
			copied += len(after.Funcs[k].Blocks) - len(m.Funcs[k].Blocks)
		}
		for _, input := range sample.Inputs() {
			ended.Add(holdRuns(t, m, after, input, 3000))
		}
	}
	if rare := ended.Rare(50); len(rare) > 0 {
		t.Error("few runs ended so:", rare)
	}
	if copied < 100 {
		t.Errorf("only %d blocks were copied", copied)
	}
}

// P10.5, P10.6: tangles go different ways by their input.
func TestLawsOfTangles(t *testing.T) {
	random := rand.New(rand.NewSource(10))
	copied := 0
	for seed := range 10000 {
		m := alone(tangle(seed))
		holdLaws(t, m, 30)
		after := sample.Changed(m, split)
		if len(after.Funcs[0].Blocks) == len(m.Funcs[0].Blocks) {
			continue
		}
		copied++
		for range 4 {
			input := make([]int, 30)
			for k := range input {
				input[k] = random.Intn(2)
			}
			for steps := range 100 {
				holdRuns(t, m, after, input, steps)
			}
		}
	}
	if copied < 300 {
		t.Errorf("blocks of only %d functions were copied", copied)
	}
}

// R3, R4: a function stays as it is, also behind its lists' ends; what is answered is new memory; and the same again.
func TestArgumentsStayAsTheyAre(t *testing.T) {
	for seed := range 1000 {
		for _, c := range append(sample.Module(seed, seed%5).Funcs, tangle(seed)) {
			before := clone.Code(c)
			if wrong := sample.Apart(split, c); wrong != "" {
				t.Fatalf("seed %d: %s", seed, wrong)
			}
			for _, list := range []func(api.Code) []int{Order, Dom} {
				first, second := list(c), list(c)
				want := slices.Clone(first)
				clear(first[:cap(first)])
				if !slices.Equal(second, want) || !slices.Equal(list(c), want) {
					t.Fatalf("seed %d: %v, want %v", seed, second, want)
				}
			}
			Reducible(c)
			if !sample.SameCode(c, before) {
				t.Fatalf("seed %d: the function was changed", seed)
			}
		}
	}
}

// P10.4, R3: a copy has the same instructions, with all fields, and the same end; and no list of it is one of another block.
func TestCopies(t *testing.T) {
	args := []int{0, 1}
	call := api.Instr{Op: api.ICall, Type: 7, Dst: -1, A: 3, B: 4, N: 5, S: "s", Args: args}
	code := []api.Instr{call, call}
	c := api.Code{Name: "f", Type: api.Long, Params: 2, Regs: []int{api.Int, api.Long}, Blocks: []api.Block{
		{Code: code, End: api.End{Kind: api.Branch, To: 1, Else: 2}},
		{Code: code, End: api.End{Kind: api.Branch, A: 1, To: 2, Else: 3}},
		{Code: code, End: api.End{Kind: api.Jump, A: 8, To: 1, Else: 9}},
		{Code: code, End: api.End{Kind: api.Return, A: 1, To: 2, Else: 3}},
	}}
	want := clone.Code(c)
	want.Blocks[2].End.To = 4
	want.Blocks = append(want.Blocks, c.Blocks[1])
	got, no := Split(c, 5)
	if no != api.OK || !sample.SameCode(got, want) {
		t.Errorf("%v, want %v", got, want)
	}
	if !sample.ListsAreApart(got) {
		t.Error("lists share memory")
	}
	if wrong := sample.Apart(split, c); wrong != "" {
		t.Error(wrong)
	}
}

// holdNone holds what is answered for a function that no valid module has: no block of it is reachable, and it becomes nothing.
func holdNone(t *testing.T, c api.Code) {
	t.Helper()
	got, no := Split(c, 400)
	if len(Order(c)) > 0 || len(Dom(c)) > 0 || Reducible(c) || no != api.ErrSplit || !sample.SameCode(got, api.Code{}) {
		t.Errorf("%d blocks: %v, %v, %v, %v, %d", len(c.Blocks), Order(c), Dom(c), Reducible(c), got, no)
	}
}

// The rules of the language: what ir.Check never accepts becomes something or nothing, but without a panic, and not forever.
func TestFunctionsThatAreNone(t *testing.T) {
	for c := range sample.Strange {
		Order(c)
		Dom(c)
		Reducible(c)
		Split(c, 400)
		for _, b := range c.Blocks {
			Tos(b.End)
		}
	}
	for _, code := range []string{"i: jump to1", "i: jump to-1", "i: branch to1 or2 | return", "i: branch or-1", "i: return | jump to7", "i: jump to1 | jump to2 | jump to-5"} {
		holdNone(t, sample.Code(code))
	}
	for _, count := range []int{0, 401, 1 << 20} {
		holdNone(t, api.Code{Name: "f", Regs: []int{api.Int}, Blocks: make([]api.Block, count)})
	}
}

// joined is a function of so many blocks, each of which goes to the next one, and last the chapter's example, or the same without the edge back.
func joined(count int, isReducible bool) api.Code {
	c := api.Code{Name: "main", Type: api.Int, Regs: []int{api.Int}}
	last := sample.Code("i: branch to1 or2 | jump to2 | branch to1 or3 | return").Blocks
	if isReducible {
		last[2].End = api.End{Kind: api.Jump, To: 3}
	}
	ahead := count - len(last)
	for k := range ahead {
		c.Blocks = append(c.Blocks, api.Block{End: api.End{Kind: api.Jump, To: k + 1}})
	}
	for _, b := range last {
		b.End.To, b.End.Else = b.End.To+ahead, b.End.Else+ahead
		c.Blocks = append(c.Blocks, b)
	}
	return c
}

// P10.4: there are never more than MaxBlocks; a reducible function may have as many from the start, and any most.
func TestMaxBlocks(t *testing.T) {
	for _, x := range []struct {
		count       int
		isReducible bool
		most, want  int // 0: ErrSplit
	}{
		{398, false, 400, 399}, {398, false, 399, 399}, {398, false, 398, 0},
		{399, false, 1 << 40, 400}, {399, false, 401, 400}, {399, false, 400, 400}, {399, false, 399, 0},
		{400, false, 1 << 40, 0}, {400, false, 401, 0}, {400, false, 400, 0}, {400, false, 0, 0},
		{400, true, 1 << 40, 400}, {400, true, 400, 400}, {400, true, 0, 400}, {400, true, -1 << 63, 400},
	} {
		c := joined(x.count, x.isReducible)
		got, no := Split(c, x.most)
		if len(got.Blocks) != x.want || (no == api.OK) != (x.want > 0) || no != api.OK && no != api.ErrSplit {
			t.Errorf("%v: %d blocks, error %d", x, len(got.Blocks), no)
			continue
		}
		if no != api.OK {
			continue
		}
		if m := alone(got); ir.Check(m) != api.OK || !Reducible(got) || !sample.SameCode(api.Code{Blocks: got.Blocks[:x.count-2]}, api.Code{Blocks: c.Blocks[:x.count-2]}) {
			t.Errorf("%v: %s", x, sample.ShowCode(got))
		}
	}
}

// P10.4: a block of a loop with several entries that may go to itself is copied without end, since its copies lead to it, too; that ends at the limit.
func TestCopiesWithoutEnd(t *testing.T) {
	for _, code := range []string{"i: branch to1 or2 | branch to2 or1 | jump to1", "i: branch to1 or3 | branch to2 or1 | branch to3 or1 | branch to3 or2"} {
		c := sample.Code(code)
		if got, no := Split(c, 1<<40); no != api.ErrSplit || !sample.SameCode(got, api.Code{}) {
			t.Errorf("%s became %s, error %d", code, sample.ShowCode(got), no)
		}
	}
}

// P10.1, P10.2: a visit may go through as many blocks as there may be, up or down.
func TestLongWay(t *testing.T) {
	const last = api.MaxBlocks - 1
	up := api.Code{Blocks: make([]api.Block, api.MaxBlocks)}
	down := api.Code{Blocks: make([]api.Block, api.MaxBlocks)}
	for k := range api.MaxBlocks {
		up.Blocks[k].End = api.End{Kind: api.Branch, To: min(k+1, last), Else: max(k-1, 0)}
		down.Blocks[k].End = api.End{Kind: api.Jump, To: (k + last) % api.MaxBlocks}
	}
	ups, downs := Order(up), Order(down)
	upDoms, downDoms := Dom(up), Dom(down)
	for k := range api.MaxBlocks {
		if ups[k] != k || upDoms[k] != max(k-1, 0) {
			t.Fatal(k, ups[k], upDoms[k])
		}
		if at := (api.MaxBlocks - k) % api.MaxBlocks; downs[k] != at || k > 0 && downDoms[k] != (k+1)%api.MaxBlocks || downDoms[0] != 0 {
			t.Fatal(k, downs[k], downDoms[k])
		}
	}
	if !Reducible(up) || !Reducible(down) {
		t.Error("not reducible")
	}
}

// P10.5: a program that goes into a loop does the same, and so do its lowered functions after Split.
func TestGotoIntoLoop(t *testing.T) {
	for _, text := range []string{
		"int main() { if (in()) goto a; while (in()) { out(1); a: out(2); } return 3; }",
		"int main() { int k = 5; if (in()) goto a; b: out(1); a: out(2); k = k - 1; if (k) goto b; return k; }",
		"int main() { int k = 3; if (in() == 1) goto a; while (k) { k = k - 1; if (in()) { out(k); a: out(9); } } return 3; }",
	} {
		m, no := lower.Lower(read.Checked(text))
		if no != api.OK || Reducible(m.Funcs[0]) {
			t.Fatalf("%s: error %d\n%s", text, no, sample.ShowModule(m))
		}
		after := sample.Changed(m, split)
		if !Reducible(after.Funcs[0]) || len(after.Funcs[0].Blocks) == len(m.Funcs[0].Blocks) {
			t.Error(sample.ShowModule(after))
		}
		for _, input := range [][]int{nil, {0, 1, 1, 0}, {1, 1, 0}, {1, 0}, {2, 1, 1, 1}, {1, 1, 1, 1, 0}} {
			for steps := range 200 {
				holdRuns(t, m, after, input, steps)
			}
		}
	}
}

func TestSpoiledModules(t *testing.T) {
	valid := 0
	for _, m := range sample.Spoiled(6000) {
		isValid := ir.Check(m) == api.OK
		for _, c := range m.Funcs {
			Order(c)
			Dom(c)
			Reducible(c)
			Split(c, manyBlocks)
		}
		if isValid {
			valid++
			holdLaws(t, m, 3)
		}
	}
	if valid < 500 {
		t.Errorf("only %d modules were valid", valid)
	}
}
