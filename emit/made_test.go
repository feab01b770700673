package emit

import (
	"testing"

	"mortise/api"
	"mortise/dom"
	"mortise/ir"
	"mortise/sample"
	"mortise/wasm"
	"mortise/wat"
)

// Shorter ways to write modules in tests; functions are written as sample.ShowCode shows them, lists as sample.ShowLists does.

// named is a function with a name and a type, whose first registers are parameters.
func named(name string, t, params int, code string) api.Code {
	c := sample.Code(code)
	c.Name, c.Type, c.Params = name, t, params
	return c
}

func mainOf(code string) api.Code { return named("main", api.Int, 0, code) }

// world is a module with a scalar of each type, an array of each type, and functions to be called; function 3 is a main with this code.
func world(code string) api.Module {
	return api.Module{
		Globals: []api.Global{
			{Name: "g", Type: api.Int},           // 0: from 0 on
			{Name: "h", Type: api.Long},          // 1: from 4 on
			{Name: "c", Type: api.Char, Size: 2}, // 2: from 12 on
			{Name: "t", Type: api.Int, Size: 3},  // 3: from 14 on
			{Name: "u", Type: api.Long, Size: 4}, // 4: from 26 on, to 58
		},
		Funcs: []api.Code{
			named("f", api.Int, 2, "il: return"),
			named("v", api.Void, 0, ": return a-1"),
			named("l", api.Long, 1, "l: return"),
			mainOf(code),
		},
	}
}

// alone is a module of main alone.
func alone(c api.Code) api.Module { return api.Module{Funcs: []api.Code{c}} }

// emitted is what a valid module becomes, which must be valid, and its own text's module (P14.4, P14.6).
func emitted(t *testing.T, m api.Module) api.WModule {
	t.Helper()
	if wrong := ir.Check(m); wrong != api.OK {
		t.Fatalf("error %d\n%.900s", wrong, sample.ShowModule(m))
	}
	w, no := Emit(m)
	if no != api.OK {
		t.Fatalf("error %d\n%.900s", no, sample.ShowModule(m))
	}
	if wrong := wasm.Check(w); wrong != api.OK {
		t.Fatalf("error %d\n%.900s\n%.900s", wrong, sample.ShowModule(m), sample.ShowWasm(w))
	}
	if again, no := wat.Parse(wat.Print(w)); no != api.OK || !sample.SameWasm(again, w) {
		t.Fatalf("error %d\n%.900s\n%.900s", no, sample.ShowWasm(w), sample.ShowWasm(again))
	}
	return w
}

// refuses holds the error of a valid module, besides which there is nothing.
func refuses(t *testing.T, want api.Errno, m api.Module) {
	t.Helper()
	if wrong := ir.Check(m); wrong != api.OK {
		t.Fatalf("error %d\n%.900s", wrong, sample.ShowModule(m))
	}
	if w, no := Emit(m); no != want || !sample.SameWasm(w, api.WModule{}) {
		t.Errorf("error %d, want %d\n%.900s", no, want, sample.ShowModule(m))
	}
}

// manyBlocks is how many blocks a function of these tests may have after dom.Split, where it is no matter that there may be more.
const manyBlocks = 60

// oneEntry is a module whose functions have loops with one entry each, if that does not make too many blocks.
func oneEntry(m api.Module) (out api.Module, ok bool) {
	out.Globals = m.Globals
	for _, c := range m.Funcs {
		c, no := dom.Split(c, manyBlocks)
		if no != api.OK {
			return api.Module{}, false
		}
		out.Funcs = append(out.Funcs, c)
	}
	return out, true
}
