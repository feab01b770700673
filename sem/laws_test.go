package sem

import (
	"slices"
	"testing"

	"mortise/api"
	"mortise/check"
	"mortise/lex"
	"mortise/parse"
	"mortise/sample"
)

// checked is the checked program of a text.
func checked(t testing.TB, text string) api.Program {
	t.Helper()
	tokens, d := lex.Lex(text)
	p, e := parse.Parse(tokens)
	p, f := check.Check(p)
	if none := (api.Diag{}); d != none || e != none || f != none {
		t.Fatal(d, e, f, text)
	}
	return p
}

func sameRun(a, b api.Run) bool {
	return slices.Equal(a.Out, b.Out) && a.Status == b.Status && a.Code == b.Code
}

func isWithin(short, long []int) bool {
	return len(short) <= len(long) && slices.Equal(short, long[:len(short)])
}

func inputs() [][]int {
	return [][]int{nil, {3, -5, 1 << 40, 7, 0, 1, 2, 255, -1 << 63}, {1, 1, 1, 1, 1, 1, 1, 1, 1, 1, 1, 1, 1, 1, 1, 1, 1, 1, 1, 1}}
}

// P5.1 to P5.4: made programs do the same by a second reading of the chapter, for different numbers of steps.
func TestSecondReading(t *testing.T) {
	ends := map[[2]int]int{}
	for seed := range 1500 {
		text := sample.Program(seed, seed%5)
		p := checked(t, text)
		for _, input := range inputs() {
			for _, steps := range []int{seed % 41, 100 + seed, 9000} {
				got, want := Run(p, input, steps), secondRun(p, input, steps)
				if !sameRun(got, want) {
					t.Fatalf("seed %d, input %v, %d steps: %v, want %v\n%s", seed, input, steps, got, want, text)
				}
				if got.Status == api.Done {
					want.Code = 0
				}
				ends[[2]int{want.Status, want.Code}]++
			}
		}
	}
	for _, end := range [][2]int{{api.Done}, {api.Going}, {api.Trapped, 1}, {api.Trapped, 2}, {api.Trapped, 3}, {api.Trapped, 4}} {
		if ends[end] < 20 {
			t.Errorf("only %d runs ended with %v", ends[end], end)
		}
	}
}

// P5.5: with more steps the output begins with the same output, and an end stays as it is.
func TestMoreSteps(t *testing.T) {
	for seed := range 120 {
		p := checked(t, sample.Program(seed, 2))
		before := Run(p, inputs()[1], -1)
		for steps := range 300 {
			run := Run(p, inputs()[1], steps)
			if !isWithin(before.Out, run.Out) || before.Status != api.Going && !sameRun(before, run) {
				t.Fatalf("seed %d, %d steps: %v, with one less %v", seed, steps, run, before)
			}
			if run.Status == api.Going && run.Code != 0 {
				t.Fatalf("seed %d, %d steps: %v", seed, steps, run)
			}
			before = run
		}
	}
}

// P5.6: zeros after the inputs change nothing.
func TestZerosAtTheEnd(t *testing.T) {
	for seed := range 500 {
		p := checked(t, sample.Program(seed, seed%4))
		for _, input := range inputs() {
			a, b := Run(p, input, 3000), Run(p, append(slices.Clone(input), 0, 0, 0), 3000)
			if !sameRun(a, b) {
				t.Fatalf("seed %d: %v, with zeros %v", seed, a, b)
			}
		}
	}
}

// P5.7: a program that is printed and read again does the same, with as many steps.
func TestPrintedProgram(t *testing.T) {
	for seed := range 500 {
		p := checked(t, sample.Program(seed, seed%4))
		again := checked(t, parse.Print(p))
		for _, steps := range []int{seed, 3000} {
			a, b := Run(p, inputs()[1], steps), Run(again, inputs()[1], steps)
			if !sameRun(a, b) {
				t.Fatalf("seed %d: %v, printed %v", seed, a, b)
			}
		}
	}
}

// R3, R4: neither the program nor the input is changed, also behind its length; the output is new memory; and a run is the same again.
func TestArgumentsStayAsTheyAre(t *testing.T) {
	for seed := range 100 {
		text := sample.Program(seed, 2)
		p, same := checked(t, text), checked(t, text)
		room := []int{4, 5, 6, 77, 88, 99}
		input := room[:3]
		run := Run(p, input, 2000)
		first := slices.Clone(run.Out)
		for i := range run.Out {
			run.Out[i] = -1
		}
		if !slices.Equal(room, []int{4, 5, 6, 77, 88, 99}) {
			t.Fatal(seed, room)
		}
		clear(run.Out[:cap(run.Out)])
		if again := Run(p, input, 2000); !slices.Equal(again.Out, first) {
			t.Fatal(seed, again.Out, first)
		}
		if !sameProgram(p, same) {
			t.Fatal(seed, "the program was changed")
		}
	}
}

func sameProgram(a, b api.Program) bool {
	sameNode := func(x, y api.Node) bool {
		return x.Op == y.Op && x.At == y.At && x.N == y.N && x.S == y.S && x.To == y.To && x.Type == y.Type && x.Ref == y.Ref && slices.Equal(x.Kids, y.Kids)
	}
	sameFunc := func(x, y api.Func) bool {
		return x.Name == y.Name && x.Type == y.Type && x.Body == y.Body && x.At == y.At && slices.Equal(x.Params, y.Params) && slices.Equal(x.Vars, y.Vars)
	}
	return slices.Equal(a.Globals, b.Globals) && slices.EqualFunc(a.Funcs, b.Funcs, sameFunc) && slices.EqualFunc(a.Nodes, b.Nodes, sameNode)
}
