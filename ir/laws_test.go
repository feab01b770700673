package ir

import (
	"math/rand"
	"slices"
	"testing"

	"mortise/api"
	"mortise/sample"
)

func inputs() [][]int {
	return [][]int{nil, {3, -5, 1 << 40, 7, 0, 1, 2, 255, -1 << 63}, {1, 1, 1, 1, 1, 1, 1, 1, 1, 1, 1, 1, 1, 1, 1, 1, 1, 1, 1, 1}}
}

// P6.2, P6.3: made modules are accepted, and do the same by a second reading of the chapter, for different numbers of steps.
func TestSecondReading(t *testing.T) {
	ends := map[[2]int]int{}
	for seed := range 3000 {
		m := sample.Module(seed, seed%5)
		if wrong := Check(m); wrong != api.OK {
			t.Fatalf("seed %d: error %d", seed, wrong)
		}
		for _, input := range inputs() {
			for _, steps := range []int{seed % 41, 100 + seed, 9000} {
				got, want := Run(m, input, steps), secondRun(m, input, steps)
				if !sameRun(got, want) {
					t.Fatalf("seed %d, input %v, %d steps: %v, want %v", seed, input, steps, got, want)
				}
				if got.Status == api.Done {
					want.Code = 0
				}
				ends[[2]int{want.Status, want.Code}]++
			}
		}
	}
	for _, end := range [][2]int{{api.Done}, {api.Going}, {api.Trapped, 1}, {api.Trapped, 2}, {api.Trapped, 3}, {api.Trapped, 4}} {
		if ends[end] < 20 {
			t.Errorf("only %d runs ended with %v", ends[end], end)
		}
	}
}

// P6.2: the first error of spoiled modules is that of the second reading; R1: a run of whatever Check refuses is none.
func TestSpoiledModules(t *testing.T) {
	random := rand.New(rand.NewSource(6))
	found := map[api.Errno]int{}
	for seed := range 15000 {
		m := sample.Module(seed%2000, seed%4)
		for range 1 + random.Intn(3) {
			spoil(random, &m)
		}
		got, want := Check(m), secondCheck(m)
		if got != want {
			t.Fatalf("seed %d: error %d, want %d", seed, got, want)
		}
		found[got]++
		wantRun := api.Run{}
		if got == api.OK {
			wantRun = secondRun(m, inputs()[1], 500)
		}
		if run := Run(m, inputs()[1], 500); !sameRun(run, wantRun) {
			t.Fatalf("seed %d: error %d, run %v, want %v", seed, got, run, wantRun)
		}
	}
	for _, e := range []api.Errno{api.OK, api.ErrRange, api.ErrType, api.ErrArgs, api.ErrForm, api.ErrMany, api.ErrMain} {
		if found[e] < 100 {
			t.Errorf("error %d was found %d times", e, found[e])
		}
	}
}

// spoil exchanges something of a module, sometimes by what is right there, too.
func spoil(random *rand.Rand, m *api.Module) {
	f := &m.Funcs[random.Intn(len(m.Funcs))]
	number := []int{-1 << 63, -2, -1, 0, 1, 2, 3, 4, len(f.Regs) - 1, len(f.Regs), len(m.Funcs), len(m.Globals), 1 << 31, 1<<63 - 1}[random.Intn(14)]
	kind := random.Intn(5)
	switch random.Intn(10) {
	case 0:
		g := &m.Globals[random.Intn(len(m.Globals))]
		*[]*int{&g.Type, &g.Size}[random.Intn(2)] = number
	case 1:
		*[]*int{&f.Type, &f.Params}[random.Intn(2)] = kind
	case 2:
		f.Regs[random.Intn(len(f.Regs))] = kind
	case 3:
		f.Regs = f.Regs[:random.Intn(len(f.Regs)+1)]
		if random.Intn(3) == 0 {
			f.Regs = append(f.Regs, make([]int, 4096)...)
		}
	case 4:
		f.Name = []string{"main", "", "f"}[random.Intn(3)]
	case 5:
		f.Blocks = f.Blocks[:random.Intn(len(f.Blocks)+1)]
	case 6:
		spoilEnd(random, f, number)
	default:
		spoilInstruction(random, f, number, kind)
	}
	if len(f.Regs) == 0 {
		f.Regs = ints(1)
	}
}

func spoilEnd(random *rand.Rand, f *api.Code, number int) {
	if len(f.Blocks) == 0 {
		return
	}
	e := &f.Blocks[random.Intn(len(f.Blocks))].End
	*[]*int{&e.Kind, &e.A, &e.To, &e.Else}[random.Intn(4)] = number
}

func spoilInstruction(random *rand.Rand, f *api.Code, number, kind int) {
	for _, b := range f.Blocks {
		if len(b.Code) == 0 || random.Intn(3) == 0 {
			continue
		}
		i := &b.Code[random.Intn(len(b.Code))]
		switch random.Intn(6) {
		case 0:
			i.Op = random.Intn(14) - 1
		case 1:
			i.Type = kind
		case 2:
			i.S = []string{"", "+", "==", "!", "&&", "/"}[random.Intn(6)]
		case 3:
			i.Args = append(i.Args[:random.Intn(len(i.Args)+1)], number)[random.Intn(2):]
		default:
			*[]*int{&i.Dst, &i.A, &i.B, &i.N}[random.Intn(4)] = number
		}
		return
	}
}

// P6.4: with more steps the output begins with the same output, and an end stays as it is.
func TestMoreSteps(t *testing.T) {
	for seed := range 300 {
		m := sample.Module(seed, seed%5)
		before := Run(m, inputs()[1], -1)
		for steps := range 300 {
			run := Run(m, inputs()[1], steps)
			if !isWithin(before.Out, run.Out) || before.Status != api.Going && !sameRun(before, run) {
				t.Fatalf("seed %d, %d steps: %v, with one less %v", seed, steps, run, before)
			}
			if run.Status == api.Going && run.Code != 0 {
				t.Fatalf("seed %d, %d steps: %v", seed, steps, run)
			}
			before = run
		}
	}
}

// P6.5: a run does not depend on inputs after those that it has read.
func TestInputsThatAreNotRead(t *testing.T) {
	const steps = 500
	input := make([]int, 2*steps)
	for i := range input {
		input[i] = i*i - 9*i + 1
	}
	reading := 0
	for seed := range 1000 {
		m := sample.Module(seed, seed%5)
		read := len(Run(countingReads(m), input, 2*steps).Out)
		if read > 0 {
			reading++
		}
		want := Run(m, input, steps)
		for _, l := range [][]int{input[:read], append(slices.Clone(input[:read]), 77, -77, 1<<50)} {
			if run := Run(m, l, steps); !sameRun(run, want) {
				t.Fatalf("seed %d, of %d inputs that it reads: %v, want %v", seed, read, run, want)
			}
		}
	}
	if reading < 100 {
		t.Errorf("only %d modules read inputs", reading)
	}
}

// countingReads is a module that does the same, but outputs something for each input that it reads, and nothing else: its steps are at most twice as many.
func countingReads(m api.Module) api.Module {
	m.Funcs = slices.Clone(m.Funcs)
	for i := range m.Funcs {
		f := &m.Funcs[i]
		f.Regs = append(slices.Clone(f.Regs), api.Long)
		f.Blocks = slices.Clone(f.Blocks)
		for k := range f.Blocks {
			f.Blocks[k].Code = countingCode(f.Blocks[k].Code, len(f.Regs)-1)
		}
	}
	return m
}

// countingCode are instructions that output a register for each input, and nothing else.
func countingCode(code []api.Instr, register int) []api.Instr {
	var l []api.Instr
	for _, i := range code {
		if i.Op != api.IOut {
			l = append(l, i)
		}
		if i.Op == api.IIn {
			l = append(l, out(register))
		}
	}
	return l
}

// P6.5, P6.3: after the last input come zeros.
func TestZerosAtTheEnd(t *testing.T) {
	for seed := range 1000 {
		m := sample.Module(seed, seed%5)
		for _, input := range inputs() {
			a, b := Run(m, input, 3000), Run(m, append(slices.Clone(input), 0, 0, 0), 3000)
			if !sameRun(a, b) {
				t.Fatalf("seed %d: %v, with zeros %v", seed, a, b)
			}
		}
	}
}

// R3, R4: neither the module nor the input is changed, also behind its length; the output is new memory; and a run is the same again.
func TestArgumentsStayAsTheyAre(t *testing.T) {
	for seed := range 300 {
		m, same := sample.Module(seed, 2), sample.Module(seed, 2)
		room := []int{4, 5, 6, 77, 88, 99}
		input := room[:3]
		Check(m)
		run := Run(m, input, 2000)
		first := slices.Clone(run.Out)
		clear(run.Out[:cap(run.Out)])
		if again := Run(m, input, 2000); !slices.Equal(again.Out, first) {
			t.Fatal(seed, again.Out, first)
		}
		if !slices.Equal(room, []int{4, 5, 6, 77, 88, 99}) {
			t.Fatal(seed, room)
		}
		if !sameModule(m, same) {
			t.Fatal(seed, "the module was changed")
		}
	}
}
