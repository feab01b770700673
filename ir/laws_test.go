package ir

import (
	"slices"
	"testing"

	"mortise/api"
	"mortise/sample"
)

// P6.2, P6.3: made modules are accepted, and do the same by a second reading of the chapter, for different numbers of steps.
func TestSecondReading(t *testing.T) {
	ended := sample.Ended{}
	for seed := range 3000 {
		m := sample.Module(seed, seed%5)
		if wrong := Check(m); wrong != api.OK {
			t.Fatalf("seed %d: error %d", seed, wrong)
		}
		for _, input := range sample.Inputs() {
			for _, steps := range []int{seed % 41, 100 + seed, 9000} {
				got, want := Run(m, input, steps), secondRun(m, input, steps)
				if !sample.SameRun(got, want) {
					t.Fatalf("seed %d, input %v, %d steps: %v, want %v", seed, input, steps, got, want)
				}
				ended.Add(want)
			}
		}
	}
	if rare := ended.Rare(20); len(rare) > 0 {
		t.Error("few runs ended so:", rare)
	}
}

// P6.2: the first error of spoiled modules is that of the second reading; R1: a run of whatever Check refuses is none.
func TestSpoiledModules(t *testing.T) {
	found := map[api.Errno]int{}
	for seed, m := range sample.Spoiled(15000) {
		got, want := Check(m), secondCheck(m)
		if got != want {
			t.Fatalf("seed %d: error %d, want %d", seed, got, want)
		}
		found[got]++
		wantRun := api.Run{}
		if got == api.OK {
			wantRun = secondRun(m, sample.Inputs()[1], 500)
		}
		if run := Run(m, sample.Inputs()[1], 500); !sample.SameRun(run, wantRun) {
			t.Fatalf("seed %d: error %d, run %v, want %v", seed, got, run, wantRun)
		}
	}
	for _, e := range []api.Errno{api.OK, api.ErrRange, api.ErrType, api.ErrArgs, api.ErrForm, api.ErrMany, api.ErrMain} {
		if found[e] < 100 {
			t.Errorf("error %d was found %d times", e, found[e])
		}
	}
}

// P6.4: with more steps the output begins with the same output, and an end stays as it is.
func TestMoreSteps(t *testing.T) {
	for seed := range 300 {
		m := sample.Module(seed, seed%5)
		if wrong := runs(m).MoreSteps(sample.Inputs()[1], 300); wrong != "" {
			t.Fatalf("seed %d: %s", seed, wrong)
		}
	}
}

// P6.5: a run does not depend on inputs after those that it has read.
func TestInputsThatAreNotRead(t *testing.T) {
	const steps = 500
	input := make([]int, 2*steps)
	for i := range input {
		input[i] = i*i - 9*i + 1
	}
	reading := 0
	for seed := range 1000 {
		m := sample.Module(seed, seed%5)
		read := len(Run(countingReads(m), input, 2*steps).Out)
		if read > 0 {
			reading++
		}
		want := Run(m, input, steps)
		for _, l := range [][]int{input[:read], append(slices.Clone(input[:read]), 77, -77, 1<<50)} {
			if run := Run(m, l, steps); !sample.SameRun(run, want) {
				t.Fatalf("seed %d, of %d inputs that it reads: %v, want %v", seed, read, run, want)
			}
		}
	}
	if reading < 100 {
		t.Errorf("only %d modules read inputs", reading)
	}
}

// countingReads is a module that does the same, but outputs something for each input that it reads, and nothing else: its steps are at most twice as many.
func countingReads(m api.Module) api.Module {
	m.Funcs = slices.Clone(m.Funcs)
	for i := range m.Funcs {
		f := &m.Funcs[i]
		f.Regs = append(slices.Clone(f.Regs), api.Long)
		f.Blocks = slices.Clone(f.Blocks)
		for k := range f.Blocks {
			f.Blocks[k].Code = countingCode(f.Blocks[k].Code, len(f.Regs)-1)
		}
	}
	return m
}

// countingCode are instructions that output a register for each input, and nothing else.
func countingCode(code []api.Instr, register int) []api.Instr {
	var l []api.Instr
	for _, i := range code {
		if i.Op != api.IOut {
			l = append(l, i)
		}
		if i.Op == api.IIn {
			l = append(l, out(register))
		}
	}
	return l
}

// P6.5, P6.3: after the last input come zeros.
func TestZerosAtTheEnd(t *testing.T) {
	for seed := range 1000 {
		m := sample.Module(seed, seed%5)
		if wrong := runs(m).ZerosAtTheEnd(3000); wrong != "" {
			t.Fatalf("seed %d: %s", seed, wrong)
		}
	}
}

// R3, R4: neither the module nor the input is changed, also behind its length; the output is new memory; and a run is the same again.
func TestArgumentsStayAsTheyAre(t *testing.T) {
	for seed := range 300 {
		m, same := sample.Module(seed, 2), sample.Module(seed, 2)
		Check(m)
		if wrong := runs(m).Apart(2000); wrong != "" {
			t.Fatalf("seed %d: %s", seed, wrong)
		}
		if !sample.SameModule(m, same) {
			t.Fatal(seed, "the module was changed")
		}
	}
}
