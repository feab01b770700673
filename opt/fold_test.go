package opt

import (
	"strconv"
	"testing"

	"mortise/api"
	"mortise/sample"
)

// P8.1: each register that an instruction, or an end, reads is replaced by the one to which it is known to be equal: 1 by 0, 3 by 2.
func TestReadsAreReplaced(t *testing.T) {
	const ahead = "ililil: copy d2, copy d3 a1, " // 0 and 2 are Ints, 1 and 3 Longs
	for _, x := range []row{
		{"copy d4 a2, return", "copy d4, return"},
		{"copy d5 a3, return", "copy d5 a1, return"},
		{"conv t3 d4 a2, return", "conv t3 d4, return"},
		{"conv t1 d4 a3, return", "conv t1 d4 a1, return"},
		{"bin t1 d4 a2 b4 -, return", "bin t1 d4 b4 -, return"},
		{"bin t1 d4 a4 b2 -, return", "bin t1 d4 a4 -, return"},
		{"bin t2 d5 a3 b3 -, return", "bin t2 d5 a1 b1 -, return"},
		{"bin t1 d4 a2 b2 /, return", "bin t1 d4 /, return"},
		{"load d4 a3 n3, return", "load d4 a1 n3, return"},
		{"store a3 b2 n3, return", "store a1 n3, return"},
		{"store a5 b3 n4, return", "store a5 b1 n4, return"},
		{"store a3 b5 n4, return", "store a1 b5 n4, return"},
		{"set a2, return", "set, return"},
		{"set a3 n1, return", "set a1 n1, return"},
		{"call d4 2 3, return", "call d4 0 1, return"},
		{"call d-1 2 5, return", "call d-1 0 5, return"},
		{"call d4 4 3, return", "call d4 4 1, return"},
		{"out a3, return", "out a1, return"},
		{"return a2", "return"},
		{"branch a2 to1 or2 | return | return", "branch to1 or2 | return | return"},
	} {
		holdFold(t, []row{{ahead + x.code, ahead + x.want}})
	}
}

// P8.1: what an instruction does not read, or only writes, is not replaced.
func TestOtherRegistersAreNotReplaced(t *testing.T) {
	holdFold(t, []row{
		{"iill: copy d1, const d1 a1 b1 n5, return", ""},
		{"iill: copy d1, get d1 a1 b1, return", ""},
		{"iill: copy d3 a2, in d3 a3 b3, return", ""},
		{"iill: copy d1, copy d1 b1, return", ""},
		{"iill: copy d1, set d1 b1, return", ""},
		{"iill: copy d3 a2, out d3 a2 b3, return", ""},
		{"iill: copy d1, store d1 a2 n3, return", ""},
		{"iill: copy d1, call d1 a1 b1 0 2, return", ""},
		{"iill: copy d1, call d-1 a1 b1 n1, return", ""},
		{"iill: copy d1, bin t1 d1 +, return", ""},
		{"iill: copy d1, jump a1 to1 or1 | return", ""},
		{"iill: copy d1, return to1 or1", ""},
	})
}

// P8.1: an ICopy, an IConv, and an IBin of registers that are known to be numbers become numbers.
func TestNumbersAreFolded(t *testing.T) {
	holdFold(t, []row{
		{"ii: const n5, copy d1, return", "ii: const n5, const d1 n5, return"},
		{"ii: const, copy d1, return", "ii: const, const d1, return"},
		{"lli: const n-9223372036854775808, copy d1, out a1, return a2", "lli: const n-9223372036854775808, const d1 n-9223372036854775808, out a1, return a2"},
		{"ii: const n5, copy, copy d1, return", "ii: const n5, const n5, const d1 n5, return"},
		{"ii: const n200, conv t3 d1, return", "ii: const n200, const d1 n-56, return"},
		{"ii: const n200, conv t1 d1, return", "ii: const n200, const d1 n200, return"},
		{"il: const n-2147483648, conv t2 d1, return", "il: const n-2147483648, const d1 n-2147483648, return"},
		{"li: const n4294967303, conv t1 d1, return a1", "li: const n4294967303, const d1 n7, return a1"},
		{"li: const n2147483648, conv t1 d1, return a1", "li: const n2147483648, const d1 n-2147483648, return a1"},
		{"li: const n4294967424, conv t3 d1, return a1", "li: const n4294967424, const d1 n-128, return a1"},
		{"lli: const n4294967424, conv t2 d1, return a2", "lli: const n4294967424, const d1 n4294967424, return a2"},
		{"ii: const n5, conv t3, copy d1, return", "ii: const n5, const n5, const d1 n5, return"},
		{"ii: const n3, bin t1 *, bin t1 d1 -, return", "ii: const n3, const n9, const d1, return"},
		{"iii: copy d1, const d1 n5, copy d2 a1, return", "iii: copy d1, const d1 n5, const d2 n5, return"},
	})
	holdFoldOfOnlyNumbers(t)
}

// holdFoldOfOnlyNumbers: one operand that is known is not enough, and no other instruction is folded.
func holdFoldOfOnlyNumbers(t *testing.T) {
	t.Helper()
	holdFold(t, []row{
		{"iii: const n5, bin t1 d2 b1 +, bin t1 d2 a1 +, return", ""},
		{"iii: bin t1 d2 b1 +, conv t3 d2, return", ""},
		{"iii: const n5, bin t1 d2 b1 +, copy d1 a2, return", ""},
		{"lii: const n1, load d1 n3, return a1", ""},
		{"lii: const n1, store b1 n3, set a1, out, return a1", ""},
		{"lii: const n1, const d1 n2, call d2 1 0, copy d1 a2, return a2", ""},
		{"il: const n5, get, conv t2 d1, return", ""},
	})
}

// P8.1: each sign is folded as word.Bin says, if that has no trap.
func TestSignsAreFolded(t *testing.T) {
	const leastInt, leastLong = -1 << 31, -1 << 63
	for _, x := range []struct {
		kind, a int
		s       string
		b       int
		want    string
	}{
		{api.Int, 1<<31 - 1, "+", 1, "-2147483648"}, {api.Long, 1<<31 - 1, "+", 1, "2147483648"}, {api.Int, 3, "-", 5, "-2"}, {api.Int, 1 << 20, "*", 1 << 20, "0"}, {api.Long, 1 << 20, "*", 1 << 20, "1099511627776"},
		{api.Int, -7, "/", 2, "-3"}, {api.Int, -7, "%", 2, "-1"}, {api.Long, 7, "/", -2, "-3"}, {api.Long, 7, "%", -2, "1"}, {api.Long, leastInt, "/", -1, "2147483648"},
		{api.Int, leastInt, "%", -1, "0"}, {api.Long, leastLong, "%", -1, "0"}, {api.Int, 0, "/", 5, "0"},
		{api.Int, 6, "&", 3, "2"}, {api.Int, 6, "|", 3, "7"}, {api.Int, 6, "^", 3, "5"}, {api.Int, 1, "<<", 33, "2"}, {api.Long, 1, "<<", 33, "8589934592"}, {api.Int, -5, ">>", 1, "-3"}, {api.Long, -5, ">>", -1, "-1"},
		{api.Int, 2, "==", 2, "1"}, {api.Int, 2, "!=", 2, "0"}, {api.Long, 1 << 32, "==", 0, "0"}, {api.Long, 1 << 32, ">", 0, "1"}, {api.Int, 2, "<", 3, "1"}, {api.Int, 3, "<=", 2, "0"}, {api.Int, 2, ">", 3, "0"}, {api.Long, -2, ">=", 3, "0"},
		{api.Int, 5, "/", 0, ""}, {api.Int, 5, "%", 0, ""}, {api.Long, 5, "/", 0, ""}, {api.Long, 0, "%", 0, ""}, {api.Int, leastInt, "/", -1, ""}, {api.Long, leastLong, "/", -1, ""},
	} {
		holdFold(t, []row{signRow(x.kind, x.a, x.s, x.b, x.want)})
	}
}

// signRow is a row with a sign between two numbers, and its result; an empty text: it traps.
func signRow(kind, a int, s string, b int, want string) row {
	result := kind
	if len(s) == 2 && s != "<<" && s != ">>" || s == "<" || s == ">" {
		result = api.Int
	}
	regs := string([]byte{" il"[kind], " il"[kind], " il"[result]}) + "i"
	ahead := regs + ": const" + sample.Field("n", a) + ", const d1" + sample.Field("n", b) + ", "
	code := ahead + "bin t" + strconv.Itoa(kind) + " d2 b1 " + s + ", return a3"
	if want == "" {
		return row{code, ""}
	}
	n, _ := strconv.Atoi(want)
	return row{code, ahead + "const d2" + sample.Field("n", n) + ", return a3"}
}

// P8.1: a result that was folded has no other fields; an instruction that is not folded keeps all of its own.
func TestFieldsOfWhatIsFolded(t *testing.T) {
	number := api.Instr{Op: api.IConst, Dst: 1, N: 5}
	result := api.Instr{Op: api.IConst, Dst: 2, N: 5}
	odd := func(op, n int) api.Instr {
		return api.Instr{Op: op, Type: api.Int, Dst: 2, A: 1, B: 1, N: n, S: "|", Args: []int{0, 0}}
	}
	for _, i := range []api.Instr{odd(api.ICopy, 9), odd(api.IConv, 9), odd(api.IBin, 9)} {
		c := api.Code{Regs: []int{api.Int, api.Int, api.Int}, Blocks: []api.Block{{Code: []api.Instr{number, i}, End: api.End{Kind: api.Return, A: -1}}}}
		if got := Fold(c).Blocks[0].Code; len(got) != 2 || !sample.SameInstr(got[0], number) || !sample.SameInstr(got[1], result) {
			t.Errorf("%v became %v", i, got)
		}
		c.Blocks[0].Code = c.Blocks[0].Code[1:]
		if got := Fold(c).Blocks[0].Code; len(got) != 1 || !sample.SameInstr(got[0], i) {
			t.Errorf("%v became %v", i, got)
		}
	}
	for _, i := range []api.Instr{odd(api.IConst, 9), odd(api.IGet, 0)} {
		c := api.Code{Regs: []int{api.Int, api.Int, api.Int}, Blocks: []api.Block{{Code: []api.Instr{number, i}, End: api.End{Kind: api.Return, A: -1}}}}
		if got := Fold(c).Blocks[0].Code; len(got) != 2 || !sample.SameInstr(got[1], i) {
			t.Errorf("%v became %v", i, got)
		}
	}
}

// P8.1: whatever writes a register, nothing that was known about it is known any more.
func TestWhatIsForgotten(t *testing.T) {
	holdFold(t, []row{
		// a number
		{"iil: const n5, get, copy d1, return", ""},
		{"iil: const n5, load a2 n3, copy d1, return", ""},
		{"iil: const n5, call 0 2, copy d1, return", ""},
		{"iil: const n5, bin t1 a1 b1 +, copy d1, return", ""},
		{"iil: const n5, conv t1 a2, copy d1, return", ""},
		{"iil: const n5, copy a1, out a2, return", "iil: const n5, copy a1, out a2, return a1"},
		{"iill: const d2 n5, in d2, copy d3 a2, return", ""},
		{"iil: const n5, bin t1 b1 /, copy d1, return", ""},
		// equality
		{"iil: copy d1, get d1, return a1", ""},
		{"iil: copy d1, const d1 n5, return a1", ""},
		{"iil: copy d1, call d1 0 2, return a1", ""},
		{"iill: copy d3 a2, in d3, out a3, return", ""},
		{"iil: copy d1, load d1 a2 n3, return a1", ""},
		{"iii: copy d1, copy d1 a2, return a1", "iii: copy d1, copy d1 a2, return a2"},
		{"iii: copy d1, bin t1 d1 b2 +, return a1", ""},
		// equality to what is written
		{"iil: copy d1, get, return a1", ""},
		{"iil: copy d1, const n5, return a1", ""},
		{"iil: copy d1, call 0 2, return a1", ""},
		{"iil: copy d1, load a2 n3, return a1", ""},
		{"iil: copy d1, conv t1 a2, return a1", ""},
		{"iii: copy d1, copy a2, return a1", ""},
		{"iii: copy d1, bin t1 b2 +, return a1", ""},
		{"iii: copy d1, bin t1 +, return a1", ""},
		{"iiii: copy d1, copy d2, const n5, bin t1 d3 a1 b2 +, return a3", ""},
		{"iiii: copy d1, copy d2 a1, const n5, bin t1 d3 a1 b2 +, return a3", "iiii: copy d1, copy d2, const n5, bin t1 d3 a1 b2 +, return a3"},
		{"iiii: copy d1 a3, copy d2 a3, copy a3, const d3 n5, bin t1 d3 a1 b2 +, return", ""},
		{"iiii: copy d1 a3, copy d2 a1, copy a2, get d3, bin t1 d3 a1 b2 +, return", "iiii: copy d1 a3, copy d2 a3, copy a3, get d3, bin t1 d3 a1 b2 +, return"},
	})
}

// P8.1: what is not written stays known.
func TestWhatIsNotForgotten(t *testing.T) {
	holdFold(t, []row{
		{"iil: const n5, call d-1 n1, copy d1, return", "iil: const n5, call d-1 n1, const d1 n5, return"},
		{"iil: const n5, store a2 n3, copy d1, return", "iil: const n5, store a2 n3, const d1 n5, return"},
		{"iil: const n5, set, copy d1, return", "iil: const n5, set, const d1 n5, return"},
		{"iil: const n5, out a2, copy d1, return", "iil: const n5, out a2, const d1 n5, return"},
		{"iil: copy d1, set d1, set, out a2, store a2 n3, call d-1 0 2, return a1", "iil: copy d1, set d1, set, out a2, store a2 n3, call d-1 0 2, return"},
		{"iii: copy d1, copy d2 a1, get d1, return a2", "iii: copy d1, copy d2, get d1, return"},
		{"iii: copy d1, copy d2 a1, const d1 n5, bin t1 d1 a1 b2 +, return", "iii: copy d1, copy d2, const d1 n5, bin t1 d1 a1 +, return"},
		{"iii: copy d1, copy d1 a2, get, return a1", "iii: copy d1, copy d1 a2, get, return a2"},
		{"iii: copy d1, const d1 n5, get, copy d2 a1, return", "iii: copy d1, const d1 n5, get, const d2 n5, return"},
		{"iii: copy d1, copy d1 a2, copy d1, get d2, return a1", "iii: copy d1, copy d1 a2, copy d1, get d2, return"},
		{"iii: copy d1, copy d2, get d1, return a2", "iii: copy d1, copy d2, get d1, return"},
	})
}

// P8.1: an ICopy of a register to itself, or to one that was equal to it.
func TestCopiesInCircles(t *testing.T) {
	holdFold(t, []row{
		{"ii: copy, return", ""},
		{"ii: copy d1, copy, return a1", ""}, // 0 is written
		{"ii: copy d1, copy a1, return a1", "ii: copy d1, copy, return a1"},
		{"ii: copy d1, copy d1 a1, return a1", "ii: copy d1, copy d1, return"},
		{"iii: copy d2, copy a1, copy d1 a2, bin t1 b1 -, return", "iii: copy d2, copy a1, copy d1 a2, bin t1 b2 -, return"},
		{"iii: copy d1, copy d2 a1, copy a2, return a2", "iii: copy d1, copy d2, copy, return a2"},
	})
}

// P8.1: at the beginning of a block nothing is known, also at the beginning of the first one.
func TestBlocksBeginAnew(t *testing.T) {
	holdFold(t, []row{
		{"iii: const n5, jump to1 | copy d1, branch to2 or3 | return | return", ""},
		{"iii: const n5, copy d2 a1, jump to1 | bin t1 d1 a2 +, branch a2 to2 or3 | return a2 | return", ""},
		{"iii: const n5, return | copy d1, branch to2 or3 | return | return", ""},
		{"iii: copy d1, jump to1 | get, return a1", ""},
		{"iii: copy d1, jump to1 | copy d2 a1, get, return a2", "iii: copy d1, jump to1 | copy d2 a1, get, return a1"},
	})
}

// P8.1: a Branch whose way is known, or is only one, becomes a Jump.
func TestBranches(t *testing.T) {
	holdFold(t, []row{
		{"i: const n1, branch to1 or2 | return | return", "i: const n1, jump to1 | return | return"},
		{"i: const n-2147483648, branch to1 or2 | return | return", "i: const n-2147483648, jump to1 | return | return"},
		{"i: const, branch to1 or2 | return | return", "i: const, jump to2 | return | return"},
		{"i: const, branch to1 | return", "i: const, jump | return"},
		{"i: const n1, branch or1 | return", "i: const n1, jump | return"},
		{"i: const n3, bin t1 -, branch to1 or2 | return | return", "i: const n3, const, jump to2 | return | return"},
		{"ii: const n3, copy d1, branch a1 to2 or1 | return | return", "ii: const n3, const d1 n3, jump to2 | return | return"},
		{"i: get, branch to1 or1 | return", "i: get, jump to1 | return"},
		{"i: branch to1 or1 | return", "i: jump to1 | return"},
		{"ii: copy d1, branch a1 to1 or1 | return", "ii: copy d1, jump to1 | return"},
		{"i: branch", "i: jump"},
		{"i: const, branch to1 or1 | return", "i: const, jump to1 | return"},
		{"i: get, branch to1 or2 | return | return", ""},
		{"i: const n1, get, branch to1 or2 | return | return", ""},
		{"ii: const n1, branch a1 to1 or2 | return | return", ""},
		{"i: const n1, jump to1 | return", ""},
		{"i: const n1, return", ""},
		{"i: const n1, jump to1 or2 | return | return", ""},
	})
}

// P8.1: a Return without a register reads none.
func TestReturnOfNothing(t *testing.T) {
	for _, a := range []int{-1, -2, -1 << 63} {
		c := sample.Code("ii: copy d1, const n1, return")
		c.Type = api.Void
		c.Blocks[0].End.A = a
		if got := Fold(c); !sample.SameCode(got, c) {
			t.Error(sample.ShowCode(got))
		}
	}
}
