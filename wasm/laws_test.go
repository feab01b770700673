package wasm

import (
	"slices"
	"testing"

	"mortise/api"
	"mortise/sample"
)

// P12.1, P12.3, P12.5: made modules are accepted, and do the same by a second reading of the chapter, for different numbers of steps; that never finds less on the stack than is popped, nor another type.
func TestSecondReading(t *testing.T) {
	ended := sample.Ended{}
	for seed := range 4000 {
		m := sample.Wasm(seed, seed%5)
		if wrong := Check(m); wrong != api.OK {
			t.Fatalf("seed %d: error %d", seed, wrong)
		}
		for _, input := range sample.Inputs() {
			for _, steps := range []int{seed % 41, 100 + seed, 9000} {
				got := Run(m, input, steps)
				want, fault := secondRun(m, input, steps)
				if fault != "" {
					t.Fatalf("seed %d, input %v, %d steps: %s", seed, input, steps, fault)
				}
				if !sample.SameRun(got, want) {
					t.Fatalf("seed %d, input %v, %d steps: %v, want %v", seed, input, steps, got, want)
				}
				ended.Add(want)
			}
		}
	}
	if rare := ended.Rare(50); len(rare) > 0 || ended["trap 5"] < 50 {
		t.Error("few runs ended so:", rare, ended)
	}
}

// P12.1, P12.2: the first error of spoiled modules is that of the second reading; P12.5: those that are still valid run without a fault; R1: a run of whatever Check refuses is none.
func TestSpoiledModules(t *testing.T) {
	found := map[api.Errno]int{}
	for name, m := range sample.SpoiledWasm(30000) {
		got, want := Check(m), secondCheck(m)
		if got != want {
			t.Fatalf("%d: error %d, want %d\n%s", name, got, want, sample.ShowWasm(m))
		}
		found[got]++
		wantRun, fault := api.Run{}, ""
		if got == api.OK {
			wantRun, fault = secondRun(m, sample.Inputs()[1], 500)
		}
		if run := Run(m, sample.Inputs()[1], 500); fault != "" || !sample.SameRun(run, wantRun) {
			t.Fatalf("%d: error %d, run %v, want %v, %s", name, got, run, wantRun, fault)
		}
	}
	for _, e := range []api.Errno{api.OK, api.ErrRange, api.ErrType, api.ErrForm, api.ErrStack, api.ErrMain} {
		if found[e] < 300 {
			t.Errorf("error %d was found %d times", e, found[e])
		}
	}
}

// few are the instructions of which the small lists below are made: all that the stack is asked for.
func few() []api.W {
	return sample.Lists("const t1 n1, const t2, get n1, set, bin t1 add, bin t2 eq, eqz t1, wrap, extend, drop, br, br n1, br_if, br_if n1, return, trap")[0]
}

// words are all lists of up to so many of some instructions.
func words(l []api.W, most int) [][]api.W {
	out := [][]api.W{{}}
	begin := 0
	for range most {
		end := len(out)
		for _, w := range out[begin:end] {
			for _, i := range l {
				out = append(out, append(slices.Clone(w), i))
			}
		}
		begin = end
	}
	return out
}

// holdSmall holds a module against the second reading, and tells whether it is valid.
func holdSmall(t *testing.T, m api.WModule) bool {
	t.Helper()
	got := Check(m)
	if want := secondCheck(m); got != want {
		t.Fatalf("error %d, want %d\n%s", got, want, sample.ShowWasm(m))
	}
	if got != api.OK {
		return false
	}
	run := Run(m, nil, 30)
	if want, fault := secondRun(m, nil, 30); fault != "" || !sample.SameRun(run, want) {
		t.Fatalf("%v, want %v, %s\n%s", run, want, fault, sample.ShowWasm(m))
	}
	return true
}

// P12.2, P12.3, P12.5: all bodies of up to three instructions, in a function of each type.
func TestSmallBodies(t *testing.T) {
	for _, kind := range []int{api.Void, api.Int, api.Long} {
		valid := 0
		for _, body := range words(few(), 3) {
			called := api.WFunc{Type: kind, Locals: []int{api.Int, api.Long}, Lists: [][]api.W{body}}
			main := function(api.Int, "call n3, "+map[int]string{api.Void: "const t1", api.Int: "eqz t1", api.Long: "wrap"}[kind])
			if holdSmall(t, api.WModule{Funcs: []api.WFunc{called, main}, Main: 1}) {
				valid++
			}
		}
		if valid < 200 {
			t.Errorf("type %d: only %d are valid", kind, valid)
		}
	}
}

// P12.2, P12.3, P12.5: all lists of up to two instructions within a block, a loop, or an if's lists, with all that may stand around them.
func TestSmallLists(t *testing.T) {
	around := words(few(), 1)
	valid := 0
	for _, nest := range []string{"block", "loop", "if o-1", "if b1"} {
		for _, inner := range words(few(), 2) {
			for _, ahead := range around {
				for _, behind := range around {
					body := slices.Concat(sample.Lists("const t1 n1")[0], ahead, sample.Lists(nest)[0], behind)
					lists := [][]api.W{inner, body}
					if nest == "if b1" {
						lists = [][]api.W{inner, {}, body}
					}
					if holdSmall(t, api.WModule{Funcs: []api.WFunc{{Type: api.Int, Locals: []int{api.Int, api.Long}, Lists: lists}}}) {
						valid++
					}
				}
			}
		}
	}
	if valid < 5000 {
		t.Errorf("only %d are valid", valid)
	}
}

// P12.4: with more steps the output begins with the same output, and an end stays as it is.
func TestMoreSteps(t *testing.T) {
	for seed := range 300 {
		m := sample.Wasm(seed, seed%5)
		if wrong := runs(m).MoreSteps(sample.Inputs()[1], 300); wrong != "" {
			t.Fatalf("seed %d: %s", seed, wrong)
		}
	}
}

// P12.3: after the last input come zeros.
func TestZerosAtTheEnd(t *testing.T) {
	for seed := range 1000 {
		m := sample.Wasm(seed, seed%5)
		if wrong := runs(m).ZerosAtTheEnd(3000); wrong != "" {
			t.Fatalf("seed %d: %s", seed, wrong)
		}
	}
}

// R3, R4: neither the module nor the input is changed, also behind its length; the output is new memory; and a run is the same again.
func TestArgumentsStayAsTheyAre(t *testing.T) {
	for seed := range 300 {
		stays := sample.WasmStays(sample.Wasm(seed, 2), func(m api.WModule) {
			Check(m)
			if wrong := runs(m).Apart(2000); wrong != "" {
				t.Errorf("seed %d: %s", seed, wrong)
			}
		})
		if !stays {
			t.Fatal(seed, "the module was changed")
		}
	}
}

// R3: what stands behind the ends of a module's lists stays as it is.
func TestSpareCapacityStaysAsItIs(t *testing.T) {
	params, locals := []int{api.Int, api.Long, 77, 88}, []int{api.Long, 77, 88, 99}
	code := sample.Lists("get n2, wrap, br_if n0, get, call n2, call n99")[0]
	lists := [][]api.W{code[:5], code}
	f := api.WFunc{Params: params[:2], Locals: locals[:1], Lists: lists[:1]}
	m := api.WModule{Funcs: []api.WFunc{f, function(api.Int, "const t1 n5, const t2, call n3, const t1")}, Main: 1}
	if wrong := Check(m); wrong != api.OK {
		t.Fatal(wrong)
	}
	if run := Run(m, nil, 100); !sample.SameRun(run, trapped(5)) {
		t.Error(run)
	}
	if !slices.Equal(params, []int{api.Int, api.Long, 77, 88}) || !slices.Equal(locals, []int{api.Long, 77, 88, 99}) {
		t.Error(params, locals)
	}
	if sample.ShowLists(lists) != "get n2, wrap, br_if, get, call n2 | get n2, wrap, br_if, get, call n2, call n99" {
		t.Error(sample.ShowLists(lists))
	}
}

// R1: whatever is in a module, there is an answer.
func TestStrangeModules(t *testing.T) {
	for m := range sample.StrangeWasm {
		holdSmall(t, m)
	}
}
