package emit

import (
	"testing"

	"mortise/api"
	"mortise/sample"
	"mortise/wat"
)

// becomes holds the lists of main in a world.
func becomes(t *testing.T, code, want string) {
	t.Helper()
	w := emitted(t, world(code))
	if got := sample.ShowLists(w.Funcs[3].Lists); got != want {
		t.Errorf("%s\nbecame %s\nwant   %s", code, got, want)
	}
}

// last is how each of the functions below ends: by a return of register 0.
const last = ", get, return, trap"

// P14.1: what each instruction becomes.
func TestInstructions(t *testing.T) {
	for code, want := range map[string]string{
		"i: const n7":                   "const t1 n7, set",
		"i: const n-2147483648":         "const t1 n-2147483648, set",
		"iil: const d2 n4294967296":     "const t2 n4294967296, set n2",
		"iii: copy d2 a1":               "get n1, set n2",
		"ill: copy d1 a2":               "get n2, set n1",
		"iiii: bin t1 d3 a2 b1 -":       "get n2, get n1, bin t1 sub, set n3",
		"illl: bin t2 d1 a3 b2 >>":      "get n3, get n2, bin t2 shr_s, set n1",
		"iill: bin t2 d1 a3 b2 <":       "get n3, get n2, bin t2 lt_s, set n1",
		"iii: conv t1 d2 a1":            "get n1, set n2",
		"iil: conv t2 d2 a1":            "get n1, extend, set n2",
		"iii: conv t3 d2 a1":            "get n1, const t1 n24, bin t1 shl, const t1 n24, bin t1 shr_s, set n2",
		"ili: conv t1 d2 a1":            "get n1, wrap, set n2",
		"ill: conv t2 d2 a1":            "get n1, set n2",
		"ili: conv t3 d2 a1":            "get n1, wrap, const t1 n24, bin t1 shl, const t1 n24, bin t1 shr_s, set n2",
		"ii: get d1":                    "const t1, load t1 n4, set n1",
		"il: get d1 n1":                 "const t1 n4, load t2 n8, set n1",
		"ii: set a1":                    "const t1, get n1, store t1 n4",
		"il: set a1 n1":                 "const t1 n4, get n1, store t2 n8",
		"iill: call d2 n2 3":            "get n3, call n5, set n2",
		"il: call 0 1":                  "get, get n1, call n3, set",
		"iil: call d-1 1 2":             "get n1, get n2, call n3, drop",
		"il: call d-9 n2 1":             "get n1, call n5, drop",
		"i: call d-1 n1":                "call n4",
		"i: call d-7 n1":                "call n4",
		"i: call n3":                    "call n6, set",
		"i: call d-1 n3":                "call n6, drop",
		"il: in d1":                     "call, set n1",
		"il: out a1":                    "get n1, call n1",
		"il: const n7, out a1, in d1":   "const t1 n7, set, get n1, call n1, call, set n1",
		"ii: bin t1 a1 b1 +, copy d1":   "get n1, get n1, bin t1 add, set, get, set n1",
		"il: conv t2 d1, conv t1 a1":    "get, extend, set n1, get n1, wrap, set",
		"ii: call d1 n3, call d-1 n3":   "call n6, set n1, call n6, drop",
		"il: get d1 n1, set n0, out a1": "const t1 n4, load t2 n8, set n1, const t1, get, store t1 n4, get n1, call n1",
	} {
		becomes(t, code+", return", want+last)
	}
	becomes(t, "i: return", "get, return, trap")
}

// P14.1: the signs.
func TestSigns(t *testing.T) {
	for sign, want := range map[string]string{
		"+": "add", "-": "sub", "*": "mul", "/": "div_s", "%": "rem_s", "&": "and", "|": "or", "^": "xor", "<<": "shl", ">>": "shr_s",
		"==": "eq", "!=": "ne", "<": "lt_s", "<=": "le_s", ">": "gt_s", ">=": "ge_s",
	} {
		becomes(t, "iii: bin t1 a1 b2 "+sign+", return", "get n1, get n2, bin t1 "+want+", set"+last)
		to := "d3"
		switch sign {
		case "==", "!=", "<", "<=", ">", ">=":
			to = "d0"
		}
		becomes(t, "illl: bin t2 "+to+" a1 b2 "+sign+", return", "get n1, get n2, bin t2 "+want+", set"+map[string]string{"d0": "", "d3": " n3"}[to]+last)
	}
}

// P14.1: elements, and the check of their index; its list is the first one that ends.
func TestElements(t *testing.T) {
	const trap = "const t1 n3, call n2 | "
	for code, want := range map[string]string{
		"iil: load d1 a2 n2":  "get n2, const t2, bin t2 lt_s, get n2, const t2 n2, bin t2 ge_s, bin t1 or, if o-1, get n2, wrap, const t1 n1, bin t1 mul, const t1 n12, bin t1 add, load t1 n1, set n1",
		"iil: load d1 a2 n3":  "get n2, const t2, bin t2 lt_s, get n2, const t2 n3, bin t2 ge_s, bin t1 or, if o-1, get n2, wrap, const t1 n4, bin t1 mul, const t1 n14, bin t1 add, load t1 n4, set n1",
		"ill: load d1 a2 n4":  "get n2, const t2, bin t2 lt_s, get n2, const t2 n4, bin t2 ge_s, bin t1 or, if o-1, get n2, wrap, const t1 n8, bin t1 mul, const t1 n26, bin t1 add, load t2 n8, set n1",
		"il: load d1 a1 n4":   "get n1, const t2, bin t2 lt_s, get n1, const t2 n4, bin t2 ge_s, bin t1 or, if o-1, get n1, wrap, const t1 n8, bin t1 mul, const t1 n26, bin t1 add, load t2 n8, set n1",
		"iil: store a2 b1 n2": "get n2, const t2, bin t2 lt_s, get n2, const t2 n2, bin t2 ge_s, bin t1 or, if o-1, get n2, wrap, const t1 n1, bin t1 mul, const t1 n12, bin t1 add, get n1, store t1 n1",
		"iil: store a2 b1 n3": "get n2, const t2, bin t2 lt_s, get n2, const t2 n3, bin t2 ge_s, bin t1 or, if o-1, get n2, wrap, const t1 n4, bin t1 mul, const t1 n14, bin t1 add, get n1, store t1 n4",
		"ill: store a1 b2 n4": "get n1, const t2, bin t2 lt_s, get n1, const t2 n4, bin t2 ge_s, bin t1 or, if o-1, get n1, wrap, const t1 n8, bin t1 mul, const t1 n26, bin t1 add, get n2, store t2 n8",
	} {
		becomes(t, code+", return", trap+want+last)
	}
	becomes(t, "il: load a1 n2, store a1 n2, return", trap+trap+"get n1, const t2, bin t2 lt_s, get n1, const t2 n2, bin t2 ge_s, bin t1 or, if o-1, get n1, wrap, const t1 n1, bin t1 mul, const t1 n12, bin t1 add, load t1 n1, set, "+
		"get n1, const t2, bin t2 lt_s, get n1, const t2 n2, bin t2 ge_s, bin t1 or, if b1 o-1, get n1, wrap, const t1 n1, bin t1 mul, const t1 n12, bin t1 add, get, store t1 n1"+last)
}

// P14.1: what each item becomes, and the order of lists, those of checks among them.
func TestItems(t *testing.T) {
	for code, want := range map[string]string{
		"iii: return a2":                              "get n2, return, trap",
		"i: jump to1 | return":                        "get, return, trap",
		"i: jump":                                     "br | loop, trap",
		"ii: branch a1 to1 or1 | return":              "get, return, trap",
		"ii: branch a1 or1 | return":                  "br n1 | get, return | get n1, if o1 | loop b2, trap",
		"iii: branch a2 to1 or2 | return a1 | return": "get n1, return | get, return | get n2, if o1, trap",
		"iii: branch a2 to1 or2 | const d1 n5, jump to2 | return a1":   "const t1 n5, set n1, br n1 | br n1 | get n2, if o1 | block b2, get n1, return, trap",
		"ii: jump to1 | branch a1 to2 or3 | get d1, jump to1 | return": "const t1, load t1 n4, set n1, br n1 | get, return | get n1, if o1 | loop b2, trap",
		// a list of a check within the loop, one ahead of the if, and one within it
		"il: load a1 n2, branch to1 or2 | store a1 n2, jump | load a1 n2, return": "const t1 n3, call n2 | const t1 n3, call n2 | " +
			"get n1, const t2, bin t2 lt_s, get n1, const t2 n2, bin t2 ge_s, bin t1 or, if b1 o-1, get n1, wrap, const t1 n1, bin t1 mul, const t1 n12, bin t1 add, get, store t1 n1, br n1 | " +
			"const t1 n3, call n2 | " +
			"get n1, const t2, bin t2 lt_s, get n1, const t2 n2, bin t2 ge_s, bin t1 or, if b3 o-1, get n1, wrap, const t1 n1, bin t1 mul, const t1 n12, bin t1 add, load t1 n1, set, get, return | " +
			"get n1, const t2, bin t2 lt_s, get n1, const t2 n2, bin t2 ge_s, bin t1 or, if o-1, get n1, wrap, const t1 n1, bin t1 mul, const t1 n12, bin t1 add, load t1 n1, set, get, if b2 o4 | " +
			"loop b5, trap",
		// a check behind a block
		"il: branch to1 or2 | jump to2 | load a1 n2, return": "br n1 | br n1 | get, if o1 | const t1 n3, call n2 | " +
			"block b2, get n1, const t2, bin t2 lt_s, get n1, const t2 n2, bin t2 ge_s, bin t1 or, if b3 o-1, get n1, wrap, const t1 n1, bin t1 mul, const t1 n12, bin t1 add, load t1 n1, set" + last,
		// two joins of one block, and a branch over a loop
		"i: branch to1 or2 | branch to3 or4 | branch to3 or4 | return | return":   "br n3 | br n2 | get, if o1 | br n3 | br n2 | get, if b3 o4 | get, if b2 o5 | block b6, get, return | block b7, get, return, trap",
		"i: jump to1 | branch to2 or4 | branch to3 or1 | branch to2 or1 | return": "br n2 | br n4 | get, if o1 | br n3 | get, if b2 o3 | loop b4 | get, return | get, if b5 o6 | loop b7, trap",
	} {
		becomes(t, code, want)
	}
}

// P14.1: blocks that are not reachable become nothing.
func TestUnreachable(t *testing.T) {
	becomes(t, "i: jump to2 | const n1, jump to2 | return | const n2, return", "get, return, trap")
}

// P14.1: the functions, with names, types, parameters and locals; what a Void function and the end of one become.
func TestFunctions(t *testing.T) {
	m := world("lilli: return a1")
	m.Funcs = append(m.Funcs, named("w", api.Void, 1, "illi: branch to1 or2 | return a-1 | return a-5"), named("x", api.Long, 3, "lil: call d-1 n4 1, return a2"), named("y", api.Void, 0, ": jump"))
	const want = "memory58 main3\n" +
		"f t1 il;: get, return, trap\n" +
		"v ;: return, trap\n" +
		"l t2 l;: get, return, trap\n" +
		"main t1 ;lilli: get n1, return, trap\n" +
		"w i;lli: return | return | get, if o1, trap\n" +
		"x t2 lil;: get n1, call n7, get n2, return, trap\n" +
		"y ;: br | loop, trap\n"
	if got := sample.ShowWasm(emitted(t, m)); got != want {
		t.Errorf("%s\nwant\n%s", got, want)
	}
}

// P14.1: main is the first function with this name.
func TestMain(t *testing.T) {
	main, other := mainOf("i: return"), named("f", api.Void, 0, ": return a-1")
	second := named("main", api.Long, 1, "l: return")
	for want, l := range [][]api.Code{{main, other}, {other, main, second}, {other, named("main_", api.Int, 0, "i: return"), main, second, main}} {
		if got := emitted(t, api.Module{Funcs: l}).Main; got != want {
			t.Errorf("%d, want %d", got, want)
		}
	}
}

// The chapter's example. Lowered, main has a second register, an Int, for the value that is returned at its end; no layer takes registers away.
func TestExample(t *testing.T) {
	text, d := Compile("int main(){return 7;}", Fold|Dead|Thread)
	m, no := wat.Parse(text)
	const want = "memory0 main0\nmain t1 ;ii: const t1 n7, set, get, return, trap\n"
	if got := sample.ShowWasm(m); d != (api.Diag{}) || no != api.OK || got != want {
		t.Errorf("error %v, %d: %s, want %s", d, no, got, want)
	}
}
