package sem

import (
	"testing"

	"mortise/api"
	"mortise/parse"
	"mortise/read"
	"mortise/sample"
)

// runs are the runs of a program.
func runs(p api.Program) sample.Runs {
	return func(input []int, steps int) api.Run { return Run(p, input, steps) }
}

// P5.1 to P5.4: made programs do the same by a second reading of the chapter, for different numbers of steps.
func TestSecondReading(t *testing.T) {
	ended := sample.Ended{}
	for seed := range 1500 {
		text := sample.Program(seed, seed%5)
		p := read.Checked(text)
		for _, input := range sample.Inputs() {
			for _, steps := range []int{seed % 41, 100 + seed, 9000} {
				got, want := Run(p, input, steps), secondRun(p, input, steps)
				if !sample.SameRun(got, want) {
					t.Fatalf("seed %d, input %v, %d steps: %v, want %v\n%s", seed, input, steps, got, want, text)
				}
				ended.Add(want)
			}
		}
	}
	if rare := ended.Rare(20); len(rare) > 0 {
		t.Error("few runs ended so:", rare)
	}
}

// P5.5: with more steps the output begins with the same output, and an end stays as it is.
func TestMoreSteps(t *testing.T) {
	for seed := range 120 {
		p := read.Checked(sample.Program(seed, 2))
		if wrong := runs(p).MoreSteps(sample.Inputs()[1], 300); wrong != "" {
			t.Fatalf("seed %d: %s", seed, wrong)
		}
	}
}

// P5.6: zeros after the inputs change nothing.
func TestZerosAtTheEnd(t *testing.T) {
	for seed := range 500 {
		p := read.Checked(sample.Program(seed, seed%4))
		if wrong := runs(p).ZerosAtTheEnd(3000); wrong != "" {
			t.Fatalf("seed %d: %s", seed, wrong)
		}
	}
}

// P5.7: a program that is printed and read again does the same, with as many steps.
func TestPrintedProgram(t *testing.T) {
	for seed := range 500 {
		p := read.Checked(sample.Program(seed, seed%4))
		again := read.Checked(parse.Print(p))
		for _, steps := range []int{seed, 3000} {
			a, b := Run(p, sample.Inputs()[1], steps), Run(again, sample.Inputs()[1], steps)
			if !sample.SameRun(a, b) {
				t.Fatalf("seed %d: %v, printed %v", seed, a, b)
			}
		}
	}
}

// R3, R4: neither the program nor the input is changed, also behind its length; the output is new memory; and a run is the same again.
func TestArgumentsStayAsTheyAre(t *testing.T) {
	for seed := range 100 {
		text := sample.Program(seed, 2)
		p, same := read.Checked(text), read.Checked(text)
		if wrong := runs(p).Apart(2000); wrong != "" {
			t.Fatalf("seed %d: %s", seed, wrong)
		}
		if !sample.SameProgram(p, same) {
			t.Fatal(seed, "the program was changed")
		}
	}
}
