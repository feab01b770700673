package sample

import (
	"testing"

	"mortise/api"
	"mortise/wasm"
)

func TestNested(t *testing.T) {
	for op, want := range map[int]string{
		api.WBlock: "drop | block | block b1",
		api.WLoop:  "drop | loop | loop b1",
		api.WIf:    "drop | const t1 n1, if o-1 | const t1 n1, if b1 o-1",
	} {
		if got := ShowLists(Nested(2, Lists("drop")[0], op)); got != want {
			t.Errorf("%s, want %s", got, want)
		}
	}
}

func TestStrangeWasm(t *testing.T) {
	valid, count := 0, 0
	for m := range StrangeWasm {
		count++
		if wasm.Check(m) == api.OK {
			valid++
		}
	}
	if count < 100000 || valid == 0 || valid > count/50 {
		t.Error(count, valid)
	}
	for range StrangeWasm {
		break
	}
}

// What changes something of a module is found, also behind the end of a list.
func TestWasmStays(t *testing.T) {
	if !WasmStays(Wasm(1, 3), func(api.WModule) {}) {
		t.Error("a module that was not read does not stay")
	}
	for name, change := range map[string]func(api.WModule){
		"a function":              func(m api.WModule) { m.Funcs[0].Type++ },
		"a local":                 func(m api.WModule) { m.Funcs[0].Locals[0]++ },
		"an instruction":          func(m api.WModule) { first(&m).N++ },
		"behind the functions":    func(m api.WModule) { _ = append(m.Funcs, api.WFunc{}) },
		"behind the parameters":   func(m api.WModule) { _ = append(m.Funcs[0].Params, 1) },
		"behind the locals":       func(m api.WModule) { _ = append(m.Funcs[0].Locals, 1) },
		"behind the lists":        func(m api.WModule) { _ = append(m.Funcs[0].Lists, nil) },
		"behind the instructions": func(m api.WModule) { _ = append(m.Funcs[0].Lists[0], api.W{}) },
	} {
		if WasmStays(Wasm(1, 3), change) {
			t.Errorf("%s: not found", name)
		}
	}
	if !SameWasm(Wasm(1, 3), Wasm(1, 3)) {
		t.Error("it was changed itself")
	}
}

func TestWasmIsApart(t *testing.T) {
	a, b := wasmRoom(Wasm(1, 3)), wasmRoom(Wasm(1, 3))
	if !WasmIsApart(a, b) {
		t.Error("two are not apart")
	}
	if WasmIsApart(a, a) {
		t.Error("one is apart from itself")
	}
	lists := []int{1, 2}
	for _, f := range []api.WFunc{
		{Params: lists[:1], Locals: lists[:1]},
		{Params: lists[:1], Locals: lists[1:]},
		{Lists: [][]api.W{b.Funcs[0].Lists[0], b.Funcs[0].Lists[0]}},
	} {
		if WasmIsApart(api.WModule{Funcs: []api.WFunc{f}}) {
			t.Error("lists that share memory are apart")
		}
	}
}
