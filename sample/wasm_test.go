package sample

import (
	"reflect"
	"testing"

	"mortise/api"
	"mortise/wasm"
)

func TestWasmIsAccepted(t *testing.T) {
	ops := map[int]int{}
	signs := map[string]int{}
	for seed := range 3000 {
		m := Wasm(seed, seed%5)
		if wrong := wasm.Check(m); wrong != api.OK {
			t.Fatalf("seed %d: error %d\n%s", seed, wrong, ShowWasm(m))
		}
		for _, f := range m.Funcs {
			for _, l := range f.Lists {
				for _, i := range l {
					ops[i.Op]++
					signs[i.S]++
				}
			}
		}
	}
	for op := api.WConst; op <= api.WDrop; op++ {
		if ops[op] < 300 {
			t.Errorf("there are only %d instructions with the Op %d", ops[op], op)
		}
	}
	if len(signs) != 17 {
		t.Error(signs)
	}
}

func TestMostRunsOfWasmEnd(t *testing.T) {
	ended := Ended{}
	for seed := range 1000 {
		ended.Add(wasm.Run(Wasm(seed, seed%5), []int{3, -5, 1 << 40, 7}, 10000))
	}
	if rare := ended.Rare(5); len(rare) > 0 || ended["going"] > 100 || ended["done"] < 500 {
		t.Error(ended)
	}
}

func TestSameSeedSameWasm(t *testing.T) {
	for seed := range 100 {
		m := Wasm(seed, 2)
		if !reflect.DeepEqual(m, Wasm(seed, 2)) {
			t.Fatal(seed)
		}
		if reflect.DeepEqual(m, Wasm(seed+100, 2)) {
			t.Error(seed, "is as another one")
		}
	}
}

// Lists in another order do the same.
func TestOrderOfLists(t *testing.T) {
	moved := 0
	for seed := range 500 {
		m := Wasm(seed, seed%5)
		input := []int{4, 5, -6}
		want := wasm.Run(m, input, 3000)
		b := &wasmBuilder{dice: newDice(seed)}
		other := m
		other.Funcs = nil
		for _, f := range m.Funcs {
			f.Lists = inOrder(f.Lists, b.orderOf(f.Lists))
			other.Funcs = append(other.Funcs, f)
		}
		if wrong := wasm.Check(other); wrong != api.OK {
			t.Fatalf("seed %d: error %d", seed, wrong)
		}
		if got := wasm.Run(other, input, 3000); !SameRun(got, want) {
			t.Fatalf("seed %d: %v, want %v", seed, got, want)
		}
		if !SameWasm(m, other) {
			moved++
		}
	}
	if moved < 200 {
		t.Error(moved)
	}
}

func TestSpoiledWasm(t *testing.T) {
	valid := 0
	for name, m := range SpoiledWasm(1000) {
		if wasm.Check(m) == api.OK {
			valid++
		}
		if name == 900 {
			break
		}
	}
	if valid < 50 || valid > 600 {
		t.Error(valid)
	}
}

func TestShowLists(t *testing.T) {
	for _, text := range []string{"-", "- | block", "const t1 n-7, bin t2 add | if o-1, ? | - | loop b1, br n2, br_if n1, call n3"} {
		if got := ShowLists(Lists(text)); got != text {
			t.Errorf("%s, want %s", got, text)
		}
	}
	for seed := range 300 {
		m := Wasm(seed, seed%5)
		for k := range m.Funcs {
			m.Funcs[k].Lists = Lists(ShowLists(m.Funcs[k].Lists))
		}
		if !SameWasm(m, Wasm(seed, seed%5)) {
			t.Fatalf("seed %d", seed)
		}
	}
}

// first is the first instruction of a module's first function.
func first(m *api.WModule) *api.W {
	for _, l := range m.Funcs[0].Lists {
		if len(l) > 0 {
			return &l[0]
		}
	}
	panic("no instruction")
}

// Two modules that differ in anything are not the same.
func TestSameWasm(t *testing.T) {
	m := Wasm(1, 3)
	for name, change := range map[string]func(m *api.WModule){
		"memory":    func(m *api.WModule) { m.Memory++ },
		"main":      func(m *api.WModule) { m.Main++ },
		"a name":    func(m *api.WModule) { m.Funcs[0].Name += "!" },
		"a type":    func(m *api.WModule) { m.Funcs[0].Type++ },
		"a param":   func(m *api.WModule) { m.Funcs[0].Params = append(m.Funcs[0].Params, 1) },
		"a local":   func(m *api.WModule) { m.Funcs[0].Locals[0]++ },
		"a list":    func(m *api.WModule) { m.Funcs[0].Lists = append(m.Funcs[0].Lists, nil) },
		"an N":      func(m *api.WModule) { first(m).N++ },
		"an S":      func(m *api.WModule) { first(m).S += "!" },
		"a Body":    func(m *api.WModule) { first(m).Body++ },
		"an Other":  func(m *api.WModule) { first(m).Other-- },
		"a missing": func(m *api.WModule) { m.Funcs = m.Funcs[1:] },
	} {
		other := Wasm(1, 3)
		change(&other)
		if SameWasm(m, other) {
			t.Errorf("%s: they are the same", name)
		}
		if name != "a missing" && ShowWasm(m) == ShowWasm(other) {
			t.Errorf("%s: they look the same", name)
		}
	}
	if !SameWasm(m, Wasm(1, 3)) || ShowWasm(m) != ShowWasm(Wasm(1, 3)) {
		t.Error("a module is not the same as itself")
	}
}
