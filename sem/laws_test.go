package sem

import (
	"slices"
	"testing"

	"mortise/api"
	"mortise/parse"
	"mortise/read"
	"mortise/sample"
)

func isWithin(short, long []int) bool {
	return len(short) <= len(long) && slices.Equal(short, long[:len(short)])
}

// P5.1 to P5.4: made programs do the same by a second reading of the chapter, for different numbers of steps.
func TestSecondReading(t *testing.T) {
	ended := sample.Ended{}
	for seed := range 1500 {
		text := sample.Program(seed, seed%5)
		p := read.Checked(text)
		for _, input := range sample.Inputs() {
			for _, steps := range []int{seed % 41, 100 + seed, 9000} {
				got, want := Run(p, input, steps), secondRun(p, input, steps)
				if !sample.SameRun(got, want) {
					t.Fatalf("seed %d, input %v, %d steps: %v, want %v\n%s", seed, input, steps, got, want, text)
				}
				ended.Add(want)
			}
		}
	}
	if rare := ended.Rare(20); len(rare) > 0 {
		t.Error("few runs ended so:", rare)
	}
}

// P5.5: with more steps the output begins with the same output, and an end stays as it is.
func TestMoreSteps(t *testing.T) {
	for seed := range 120 {
		p := read.Checked(sample.Program(seed, 2))
		before := Run(p, sample.Inputs()[1], -1)
		for steps := range 300 {
			run := Run(p, sample.Inputs()[1], steps)
			if !isWithin(before.Out, run.Out) || before.Status != api.Going && !sample.SameRun(before, run) {
				t.Fatalf("seed %d, %d steps: %v, with one less %v", seed, steps, run, before)
			}
			if run.Status == api.Going && run.Code != 0 {
				t.Fatalf("seed %d, %d steps: %v", seed, steps, run)
			}
			before = run
		}
	}
}

// P5.6: zeros after the inputs change nothing.
func TestZerosAtTheEnd(t *testing.T) {
	for seed := range 500 {
		p := read.Checked(sample.Program(seed, seed%4))
		for _, input := range sample.Inputs() {
			a, b := Run(p, input, 3000), Run(p, append(slices.Clone(input), 0, 0, 0), 3000)
			if !sample.SameRun(a, b) {
				t.Fatalf("seed %d: %v, with zeros %v", seed, a, b)
			}
		}
	}
}

// P5.7: a program that is printed and read again does the same, with as many steps.
func TestPrintedProgram(t *testing.T) {
	for seed := range 500 {
		p := read.Checked(sample.Program(seed, seed%4))
		again := read.Checked(parse.Print(p))
		for _, steps := range []int{seed, 3000} {
			a, b := Run(p, sample.Inputs()[1], steps), Run(again, sample.Inputs()[1], steps)
			if !sample.SameRun(a, b) {
				t.Fatalf("seed %d: %v, printed %v", seed, a, b)
			}
		}
	}
}

// R3, R4: neither the program nor the input is changed, also behind its length; the output is new memory; and a run is the same again.
func TestArgumentsStayAsTheyAre(t *testing.T) {
	for seed := range 100 {
		text := sample.Program(seed, 2)
		p, same := read.Checked(text), read.Checked(text)
		room := []int{4, 5, 6, 77, 88, 99}
		input := room[:3]
		run := Run(p, input, 2000)
		first := slices.Clone(run.Out)
		for i := range run.Out {
			run.Out[i] = -1
		}
		if !slices.Equal(room, []int{4, 5, 6, 77, 88, 99}) {
			t.Fatal(seed, room)
		}
		clear(run.Out[:cap(run.Out)])
		if again := Run(p, input, 2000); !slices.Equal(again.Out, first) {
			t.Fatal(seed, again.Out, first)
		}
		if !sample.SameProgram(p, same) {
			t.Fatal(seed, "the program was changed")
		}
	}
}
