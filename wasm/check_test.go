package wasm

import (
	"testing"

	"mortise/api"
)

// around is a module whose main, an Int with the locals Int, Long, Int, Long, has these lists; the functions 4 to 7 take things and return things.
func around(lists string) api.WModule {
	return with(lists,
		takes(0, api.Void, "-"),
		takes(2, api.Int, "const t1"),
		takes(1, api.Long, "const t2"),
		takes(3, api.Void, "-"),
	)
}

// holdErrors holds the errors of lists.
func holdErrors(t *testing.T, want api.Errno, l ...string) {
	t.Helper()
	for _, lists := range l {
		if got := Check(around(lists)); got != want {
			t.Errorf("%s: error %d, want %d", lists, got, want)
		}
	}
}

// P12.2: what each instruction pops and pushes.
func TestRightInstructions(t *testing.T) {
	holdErrors(t, api.OK,
		"const t1", "const t1 n2147483647", "const t1 n-2147483648", "const t2 n9223372036854775807, wrap", "const t2 n-9223372036854775808, wrap",
		"get", "get n2", "get n1, wrap", "get n3, wrap",
		"get, get, set", "get, get, set n2", "get, get n1, set n3", "get, get n3, set n1",
		"get, eqz t1", "get n1, eqz t2", "get n1, wrap", "get, extend, wrap", "get, extend, eqz t2",
		"get, load t1 n1", "get, load t1 n4", "get, load t2 n8, wrap",
		"get, get, get, store t1 n1", "get, get, get, store t1 n4", "get, get, get n1, store t2 n8",
		"call, wrap", "get, get n1, call n1", "get, get, call n2",
		"get, call n4", "get, get n1, call n5", "get, call n6, wrap", "get, get, get n1, get, call n7", "get, call n3, drop", "call n3",
		"get, get, drop", "get, get n1, drop", "get, call, drop",
		"get, return", "trap", "get, br")
	for _, s := range []string{"add", "sub", "mul", "div_s", "rem_s", "and", "or", "xor", "shl", "shr_s"} {
		holdErrors(t, api.OK, "get, get, bin t1 "+s, "get n1, get n1, bin t2 "+s+", wrap")
		holdErrors(t, api.ErrStack, "get n1, get n1, bin t2 "+s, "get, get n1, bin t2 "+s, "get n1, get, bin t2 "+s, "get, get, bin t2 "+s, "get, get n1, bin t1 "+s, "get n1, get, bin t1 "+s, "get, bin t1 "+s, "get, get, bin t1 "+s+", wrap")
	}
	for _, s := range []string{"eq", "ne", "lt_s", "le_s", "gt_s", "ge_s"} {
		holdErrors(t, api.OK, "get, get, bin t1 "+s, "get n1, get n1, bin t2 "+s)
		holdErrors(t, api.ErrStack, "get n1, get n1, bin t2 "+s+", wrap", "get, get n1, bin t2 "+s, "get n1, get, bin t2 "+s, "get, get, bin t2 "+s, "get, get n1, bin t1 "+s, "get n1, get, bin t1 "+s, "get, bin t1 "+s)
	}
}

// P12.2: there is no such Op, sign, Type, or number of bytes; that comes ahead of other errors.
func TestErrForm(t *testing.T) {
	holdErrors(t, api.ErrForm, "?", "get, ?", "?, drop",
		"const", "const t3", "const t4", "const t-1", "const t3 n1000", "const t0 n-1",
		"get, eqz", "get, eqz t3", "eqz t4", "get, eqz t-1",
		"get, get, bin t1", "get, get, bin t1 div", "get, get, bin t1 div_u", "get, get, bin t1 +", "get, get, bin t1 lt", "get, get, bin t1 lt_u", "get, get, bin t1 shr", "get, get, bin t1 shr_u", "get, get, bin t1 eqz", "get, get, bin t1 Add", "get, get, bin t1 ==", "get, get, bin t1 rotl",
		"get, get, bin add", "get, get, bin t3 add", "get, get, bin t4 eq", "bin t-1 add",
		"get, load t1", "get, load t1 n2", "get, load t1 n3", "get, load t1 n5", "get, load t1 n8", "get, load t1 n-1", "get, load t2 n1", "get, load t2 n4", "get, load t2", "get, load t2 n9", "get, load t2 n16", "get, load n4", "get, load t3 n1", "get, load t4 n4", "load t1 n2",
		"get, get, store t1", "get, get, store t1 n2", "get, get, store t1 n8", "get, get n1, store t2 n4", "get, get n1, store t2 n1", "get, get n1, store t2", "get, get, store n4", "get, get, store t3 n1", "store t1 n2")
	for _, op := range []int{-1 << 63, -1, 0, 19, 20, 1<<63 - 1} {
		m := around("const t1")
		m.Funcs[0].Lists[0] = append([]api.W{{Op: op, Type: api.Int, N: 9, Body: 7, Other: 8, S: "add"}}, m.Funcs[0].Lists[0]...)
		if got := Check(m); got != api.ErrForm {
			t.Errorf("Op %d: error %d", op, got)
		}
	}
}

// P12.2: an N that is not a local, a function or a list around it, or not a value; that comes ahead of what the stack lacks.
func TestErrRange(t *testing.T) {
	holdErrors(t, api.ErrRange,
		"const t1 n2147483648", "const t1 n-2147483649", "const t1 n9223372036854775807", "const t1 n4294967296",
		"get n4", "get n-1", "get n9223372036854775807", "get, set n4", "get, set n-1", "set n4", "set n-9223372036854775808",
		"call n8", "call n-1", "call n9223372036854775807", "call n-9223372036854775808",
		"get, br n1", "get, br n-1", "br n1", "get, get, br_if n1", "get, get, br_if n-1", "br_if n1",
		"br n2 | block, get", "br n-1 | loop, get", "get, br_if n2 | get, if o-1, get", "br_if n3 | block, get",
		"br n3 | block | loop b1, get", "- | br n2 | get, if o1, get",
		"- | block, get, br n1", "- | block, get, get, br_if n1")
	holdErrors(t, api.OK, "get, br n1 | block, get", "get, br n2 | block | loop b1, get", "get, br n1 | - | get, if o1, get", "- | get, br n1 | get, if o1, get", "get n3, wrap, set n2, get n2", "get, get n1, get, call n7, get")
}

// P12.2: the stack does not have what an instruction pops.
func TestErrStack(t *testing.T) {
	holdErrors(t, api.ErrStack,
		"set", "get, set n1", "get n1, set", "get n1, get, set n1", "drop", "get, drop, drop",
		"eqz t1", "eqz t2", "get, eqz t2", "get n1, eqz t1", "wrap", "extend", "get, wrap", "get n1, extend",
		"bin t1 add", "load t1 n4", "get n1, load t1 n1", "get n1, load t1 n4", "get n1, load t2 n8", "get, load t2 n8", "get, load t1 n4, wrap",
		"store t1 n4", "get, store t1 n4", "get n1, get, store t1 n4", "get, get n1, store t1 n4", "get, get n1, store t1 n1", "get, get, store t2 n8", "get n1, get, store t2 n8", "get n1, get n1, store t2 n8",
		"call", "call n1", "get, call n1", "call n2", "get n1, call n2", "call n5", "get, call n5", "get n1, call n5", "get n1, get, call n5", "get, get, call n5", "get, call n7", "get, get n1, get n1, call n7", "get, call n6", "call n4", "call n4, drop", "get, call n1, get",
		"- | if o-1, get", "- | get n1, if o-1, get", "- | - | if o1, get",
		"br_if", "get, br_if", "get n1, br_if", "get, get n1, br_if", "get n1, get, br_if", "get n1, get n1, br_if",
		"br_if n1 | block, get", "get n1, br_if | block, get", "get, br_if n1 | block, get", "get n1, get, br_if n1 | block, get",
		"return", "get n1, return, get", "get, get n1, return")
	// a list has nothing of what belongs to the lists around it
	holdErrors(t, api.ErrStack, "drop | get, block, get", "set | get, loop, get", "eqz t1, drop | get, get, if o-1, get", "- | drop | get, get, if o1", "br n1 | get, block", "return | get, block", "get, br_if n1, drop | get, block", "drop | block | get, block b1")
}

// P12.2: at the end nothing may be left of a list, and of the body exactly what it returns.
func TestEndsOfLists(t *testing.T) {
	holdErrors(t, api.ErrStack,
		"-", "get n1", "get, get", "get, get n1", "get n1, get", "get, drop", "call n4", "get, get, get",
		"get | block, get", "get n1 | loop, get", "get | get, if o-1, get", "- | get | get, if o1, get", "get | - | get, if o1, get",
		"get | block", "get, br_if, get | block, get", "br n1 | block", "- | block", "- | loop", "- | get, if o-1")
	for kind, right := range [][]string{
		{"-", "call n4", "return", "br", "get, br_if", "get, get n1, return", "trap", "get, get, br", "get n1, br n1 | block", "get, br_if n1 | loop"},
		{"get", "get, return", "get, br", "get, get, br_if", "trap", "get n1, get, return", "get n1, get, br", "get, br n1 | block, get", "get, get, br_if n1, drop | loop, get", "br | loop, get"},
		{"get n1", "get n1, return", "get n1, br", "get n1, get, br_if", "trap", "get, get n1, return", "get n1, br n1 | block, get n1"},
	} {
		for _, lists := range right {
			m := around("get")
			m.Funcs[1] = function(kind, lists)
			if got := Check(m); got != api.OK {
				t.Errorf("type %d, %s: error %d", kind, lists, got)
			}
			if kind == api.Void || lists == "trap" {
				continue
			}
			m.Funcs[1] = function(api.Int+api.Long-kind, lists)
			if got := Check(m); got != api.ErrStack {
				t.Errorf("not type %d, %s: error %d", kind, lists, got)
			}
		}
	}
}

// P12.2: a branch, a return and a trap leave nothing, and what is popped behind them and is not there counts as present, but what is there counts as it is.
func TestBehindLeaving(t *testing.T) {
	for _, leave := range []string{"trap", "get, return", "get, br", "get n1, get, return", "get n1, trap", "get, get, get, br"} {
		for behind, want := range map[string]api.Errno{
			"": api.OK, ", get": api.OK, ", get n1": api.ErrStack, ", get, get": api.ErrStack, ", get n1, get": api.ErrStack,
			", drop": api.OK, ", drop, drop": api.OK, ", get, drop": api.OK, ", get n1, drop, drop": api.OK, ", get n1, drop, get": api.OK,
			", bin t1 add": api.OK, ", get, bin t1 add": api.OK, ", get n1, bin t1 add": api.ErrStack, ", get n1, get, bin t1 add": api.ErrStack,
			", bin t2 add": api.ErrStack, ", bin t2 add, wrap": api.OK, ", bin t2 eq": api.OK, ", get n1, bin t2 eq": api.OK, ", get, bin t2 eq": api.ErrStack,
			", wrap": api.OK, ", extend": api.ErrStack, ", extend, drop": api.OK, ", get, wrap": api.ErrStack, ", eqz t2": api.OK,
			", set": api.OK, ", set n1": api.OK, ", get, set n1": api.ErrStack, ", load t2 n8": api.ErrStack, ", load t1 n1": api.OK,
			", store t1 n1": api.OK, ", get n1, store t2 n8": api.OK, ", get, store t2 n8": api.ErrStack, ", get, get, get, store t1 n4": api.OK, ", get n1, get, get, store t1 n4": api.ErrStack,
			", call n7": api.OK, ", get, call n7": api.OK, ", get n1, get, call n7": api.OK, ", get n1, call n7": api.ErrStack, ", get, get, call n7": api.ErrStack, ", call n5": api.OK, ", call n6": api.ErrStack, ", call": api.ErrStack,
			", return": api.OK, ", get n1, return": api.ErrStack, ", br": api.OK, ", get n1, br": api.ErrStack, ", get n1, trap": api.OK, ", trap, drop": api.OK,
			", br_if": api.OK, ", br_if, drop": api.OK, ", br_if, br_if": api.OK, ", br_if, get": api.ErrStack, ", br_if, wrap": api.ErrStack, ", get, br_if": api.OK, ", get n1, br_if": api.ErrStack, ", get n1, get, br_if": api.ErrStack,
			", ?": api.ErrForm, ", get n4": api.ErrRange, ", call n8": api.ErrRange, ", br n1": api.ErrRange,
		} {
			if got := Check(around(leave + behind)); got != want {
				t.Errorf("%s%s: error %d, want %d", leave, behind, got, want)
			}
		}
	}
}

// P12.2: it counts as present in this list, not in those around it, nor in those within it; a loop's too.
func TestBehindLeavingWithin(t *testing.T) {
	holdErrors(t, api.OK,
		"trap, drop | block, get", "br, drop | loop, get", "get, return, drop, set | get, if o-1, get", "- | br, set | get, if o1, get",
		"br n1 | block | loop b1, get", "trap, br_if | block, get", "trap, br_if n1, drop | block, get", "get, br n1, drop | block, get",
		"trap | trap, block", "- | trap, if o-1", "- | - | trap, if o1", "trap | block, get, drop, get", "br n1, drop | block | block b1, get",
		"get, get n1, br | block, get", "get, get n1, br | loop, get", "get, get n1, br n1 | block | loop b1, get")
	holdErrors(t, api.ErrStack,
		"trap | block", "br | block", "get, return | loop", "trap | get, if o-1", "trap | trap | get, if o1", // the body does not count as left
		"trap | block, drop, get", "br | loop, wrap", "br n1 | block | block b1, drop",
		"drop | trap, block", "set | trap, loop", "eqz t1, drop | trap, if o-1", "- | drop | trap, if o1", // nor what is within a list that was left
		"drop | trap, block, get", "trap, get | block, get", "trap, br_if n1 | block, get", "get, br, get | loop, get", "trap, wrap | block, get", "trap | drop | get, if o1, get", "trap, drop | drop | get, if o1, get")
}

// P12.2: a branch that may not be taken to another list than the body takes nothing with it; one to the body what is returned, which it pushes again.
func TestBranches(t *testing.T) {
	holdErrors(t, api.OK,
		"get, br_if | block, get", "get, br_if | loop, get", "get, br_if n1 | block | block b1, get", "get n1, get, br_if, drop | block, get",
		"get, get, br_if", "get, get, br_if, get, br_if", "get, get, br_if, return", "get n1, get, get, br_if, set, wrap")
}

// P12.2: the first error is that of the first instruction, in the order in which they are met: an instruction's lists ahead of what follows it, an if's Body ahead of its Other.
func TestFirstError(t *testing.T) {
	holdErrors(t, api.ErrForm, "?, get n9, drop", "get, drop, ?, drop", "? | block, drop", "? | get n9 | get, if o1", "get n9 | ? | get, if b1", "get, drop, ? | get | get, if o1", "- | ? | get, if o1, drop", "? | block | block b1, drop", "? | drop | block, block b1")
	holdErrors(t, api.ErrRange, "get n9, ?, drop", "get n9 | block, ?", "get n9 | ? | get, if o1", "? | get n9 | get, if b1", "- | get n9 | get, if o1, ?", "br n9 | block | block b1, ?")
	holdErrors(t, api.ErrStack, "drop, ?, get n9", "drop | block, ?", "get | block, ?", "drop | ? | get, if o1", "get | ? | get, if o1", "? | get | get, if b1", "? | if o-1", "? | get n1, if o-1", "- | get | get, if o1, ?", "get | block | block b1, ?", "? | drop, block", "get, get n1, bin t1 add, ?")
}
