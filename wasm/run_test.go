package wasm

import (
	"strconv"
	"testing"

	"mortise/api"
	"mortise/sample"
)

// P12.3: locals are 0 at first; what is set is got, and one local is not another.
func TestLocals(t *testing.T) {
	try(t, []trial{
		{"a number", alone("const t1 n7"), nil, 1, done(7)},
		{"the least", alone("const t1 n-2147483648"), nil, 1, done(leastInt)},
		{"zero", alone("get"), nil, 1, done(0)},
		{"a Long that is zero", alone("get n3, call n1, get n2"), nil, 3, done(0, 0)},
		{"set", alone("const t1 n5, set, const t1 n6, set n2, get"), nil, 5, done(5)},
		{"another", alone("const t1 n5, set, const t1 n6, set n2, get n2"), nil, 5, done(6)},
		{"again", alone("const t1 n5, set, const t1 n6, set, get"), nil, 5, done(6)},
		{"a Long", alone("const t2 n-9223372036854775808, set n1, get n1, call n1, get"), nil, 5, done(0, leastLong)},
		{"dropped", alone("const t1 n5, const t2 n6, drop"), nil, 3, done(5)},
	})
}

// P12.3: an operation is word.Bin of its Type, of what was pushed first and of what was pushed then; its trap ends the run.
func TestOperations(t *testing.T) {
	of := func(kind, a int, s string, b int) api.WModule {
		word := " t" + strconv.Itoa(kind) + " "
		text := "const" + word + "n" + strconv.Itoa(a) + ", const" + word + "n" + strconv.Itoa(b) + ", bin" + word + s
		if kind == api.Int || isComparing(s) {
			text += ", extend"
		}
		return alone(text + ", call n1, const t1")
	}
	for _, x := range []struct {
		kind, a int
		s       string
		b, want int
	}{
		{api.Int, 1<<31 - 1, "add", 1, leastInt}, {api.Long, 1<<31 - 1, "add", 1, 1 << 31}, {api.Int, 3, "sub", 5, -2}, {api.Long, 3, "sub", 5, -2}, {api.Int, leastInt, "mul", -1, leastInt}, {api.Long, leastLong, "mul", -1, leastLong},
		{api.Int, -7, "div_s", 2, -3}, {api.Int, 2, "div_s", -7, 0}, {api.Int, -7, "rem_s", 2, -1}, {api.Int, leastInt, "rem_s", -1, 0}, {api.Long, leastLong, "rem_s", -1, 0}, {api.Long, leastInt, "div_s", -1, 1 << 31},
		{api.Int, 6, "and", 3, 2}, {api.Int, 6, "or", 3, 7}, {api.Int, 6, "xor", 3, 5}, {api.Int, 1, "shl", 33, 2}, {api.Long, 1, "shl", 33, 1 << 33}, {api.Int, 33, "shl", 1, 66}, {api.Int, -5, "shr_s", 1, -3}, {api.Long, -5, "shr_s", -1, -1},
		{api.Int, 2, "eq", 2, 1}, {api.Int, 2, "eq", 3, 0}, {api.Int, 2, "ne", 2, 0}, {api.Long, 1 << 32, "eq", 0, 0}, {api.Long, 1 << 32, "ne", 0, 1}, {api.Long, 1 << 32, "gt_s", 0, 1},
		{api.Int, 2, "lt_s", 3, 1}, {api.Int, 3, "lt_s", 3, 0}, {api.Int, 3, "le_s", 3, 1}, {api.Int, 3, "le_s", 2, 0}, {api.Int, 2, "gt_s", 3, 0}, {api.Int, 3, "gt_s", -3, 1}, {api.Int, 3, "gt_s", 3, 0}, {api.Long, -2, "ge_s", 3, 0}, {api.Long, -2, "ge_s", -2, 1},
	} {
		m, steps := of(x.kind, x.a, x.s, x.b), 5
		if x.kind == api.Int || isComparing(x.s) {
			steps++
		}
		try(t, []trial{{x.s, m, nil, steps, done(0, x.want)}})
	}
	try(t, []trial{
		{"by 0", of(api.Int, 5, "div_s", 0), nil, 3, trapped(api.TrapZero)},
		{"a Long by 0", of(api.Long, 5, "div_s", 0), nil, 3, trapped(api.TrapZero)},
		{"rest by 0", of(api.Int, 5, "rem_s", 0), nil, 3, trapped(api.TrapZero)},
		{"too great", of(api.Int, leastInt, "div_s", -1), nil, 3, trapped(api.TrapOver)},
		{"too great a Long", of(api.Long, leastLong, "div_s", -1), nil, 3, trapped(api.TrapOver)},
	})
}

// P12.3: WEqz is 1 for 0 alone; WWrap keeps the lowest bits; WExtend keeps the number.
func TestConversions(t *testing.T) {
	try(t, []trial{
		{"0", alone("const t1, eqz t1"), nil, 2, done(1)},
		{"1", alone("const t1 n1, eqz t1"), nil, 2, done(0)},
		{"-1", alone("const t1 n-1, eqz t1"), nil, 2, done(0)},
		{"a Long 0", alone("const t2, eqz t2"), nil, 2, done(1)},
		{"a Long whose lowest bits are 0", alone("const t2 n4294967296, eqz t2"), nil, 2, done(0)},
		{"wrapped", alone("const t2 n4294967303, wrap"), nil, 2, done(7)},
		{"wrapped to the least", alone("const t2 n2147483648, wrap"), nil, 2, done(leastInt)},
		{"wrapped below 0", alone("const t2 n-1, wrap"), nil, 2, done(-1)},
		{"wrapped away", alone("const t2 n-9223372036854775808, wrap"), nil, 2, done(0)},
		{"extended", alone("const t1 n-5, extend, call n1, const t1 n3"), nil, 4, done(3, -5)},
		{"extended from the least", alone("const t1 n-2147483648, extend, call n1, const t1 n3"), nil, 4, done(3, leastInt)},
	})
}

// P12.3: in is the next input, and 0 after the last one; out outputs; trap ends the run with what it popped.
func TestGivenFunctions(t *testing.T) {
	twice := alone("call, call, call n1, call n1, const t1 n4")
	try(t, []trial{
		{"two", twice, []int{5, leastLong, 7}, 5, done(4, leastLong, 5)},
		{"one", twice, []int{5}, 5, done(4, 0, 5)},
		{"none", twice, nil, 5, done(4, 0, 0)},
		{"trap", alone("const t2 n9, call n1, const t1 n77, call n2, const t1"), nil, 4, trapped(77, 9)},
		{"trap 0", alone("const t1, call n2, const t1"), nil, 2, trapped(0)},
		{"trap below 0", alone("const t1 n-2147483648, call n2, const t1"), nil, 2, trapped(leastInt)},
		{"reached", alone("trap"), nil, 1, trapped(5)},
		{"reached with an output", alone("call, call n1, trap"), []int{8}, 3, trapped(5, 8)},
	})
	if run := Run(twice, []int{5, 6}, 3); !sample.SameRun(run, api.Run{Out: []int{6}, Status: api.Going}) {
		t.Error(run)
	}
}

// kept is a main that stores a number at an address, and outputs, as a Long, what it loads from another one; the memory has 16 bytes.
func kept(size, at, v, from, loaded int) api.WModule {
	bytes := map[int]string{1: "t1 n1", 4: "t1 n4", 8: "t2 n8"}
	value := "const " + bytes[size][:3] + "n" + strconv.Itoa(v)
	text := "const t1 n" + strconv.Itoa(at) + ", " + value + ", store " + bytes[size] + ", const t1 n" + strconv.Itoa(from) + ", load " + bytes[loaded]
	if loaded < 8 {
		text += ", extend"
	}
	return alone(text + ", call n1, const t1")
}

// P12.3: bytes are 0 at first; they stand in little-endian order, and what is loaded is signed.
func TestMemory(t *testing.T) {
	for _, x := range []struct{ size, at, v, from, loaded, want int }{
		{1, 0, 200, 0, 1, -56}, {1, 3, -129, 3, 1, 127}, {1, 15, 1<<31 - 1, 15, 1, -1}, {1, 0, 256, 0, 1, 0}, {1, 0, 127, 0, 1, 127}, {1, 0, 128, 0, 1, -128},
		{4, 0, leastInt, 0, 4, leastInt}, {4, 12, -2, 12, 4, -2}, {4, 5, 1<<31 - 1, 5, 4, 1<<31 - 1},
		{8, 0, leastLong, 0, 8, leastLong}, {8, 8, -3, 8, 8, -3}, {8, 3, 1<<63 - 1, 3, 8, 1<<63 - 1},
		{4, 0, 0x12345678, 0, 1, 0x78}, {4, 0, 0x12345678, 1, 1, 0x56}, {4, 0, 0x12345678, 2, 1, 0x34}, {4, 0, 0x12345678, 3, 1, 0x12}, {4, 1, 0x12345678, 0, 1, 0}, {4, 0, 0x12345678, 4, 1, 0},
		{4, 2, 0x12345678, 1, 4, 0x34567800}, {4, 2, 0x12345678, 3, 4, 0x123456}, {4, 0, -1, 0, 8, 1<<32 - 1}, {4, 4, -1, 0, 8, -1 << 32},
		{8, 0, 0x0102030405060708, 0, 4, 0x05060708}, {8, 0, 0x0102030405060708, 4, 4, 0x01020304}, {8, 0, 0x0102030405060708, 6, 1, 2}, {8, 0, 0x0102030405060708, 7, 1, 1}, {8, 0, 0x0102030485060708, 0, 4, 0x85060708 - 1<<32}, {8, 0, 0xfe, 0, 1, -2},
		{1, 2, -1, 0, 4, 0xff0000}, {1, 2, -1, 0, 8, 0xff0000}, {1, 7, 0x80, 0, 8, leastLong},
	} {
		steps := 8
		if x.loaded == 8 {
			steps--
		}
		try(t, []trial{{"kept", kept(x.size, x.at, x.v, x.from, x.loaded), nil, steps, done(0, x.want)}})
	}
}

// P12.3: an address that is not from 0 to the memory's size minus the number of bytes traps, and nothing is stored.
func TestAddresses(t *testing.T) {
	for _, size := range []int{1, 4, 8} {
		for _, at := range []int{leastInt, -9, -size, -1, 17 - size, 16, 17, 4096, 65536, 1<<31 - 1} {
			try(t, []trial{{"a store", kept(size, at, 1, 0, 1), nil, 3, trapped(api.TrapIndex)}})
			try(t, []trial{{"a load", kept(1, 0, 1, at, size), nil, 5, trapped(api.TrapIndex)}})
		}
		try(t, []trial{{"the last ones", kept(size, 16-size, 0, 16-size, 1), nil, 8, done(0, 0)}})
	}
	for memory := range 9 {
		for _, size := range []int{1, 4, 8} {
			m := kept(size, 0, 5, 0, 1)
			m.Memory = memory
			want := trial{"a small memory", m, nil, 3, trapped(api.TrapIndex)}
			if memory >= size {
				want = trial{"a small memory", m, nil, 8, done(0, 5)}
			}
			try(t, []trial{want})
		}
	}
	great := kept(8, 4088, -7, 4088, 8)
	great.Memory = api.MaxData
	try(t, []trial{{"the greatest memory", great, nil, 7, done(0, -7)}})
}

// P12.3: an operand on top is the one that was pushed last: a value, above its address.
func TestOrderOfOperands(t *testing.T) {
	try(t, []trial{
		{"a store", alone("const t1 n3, const t1 n9, store t1 n1, const t1 n3, load t1 n1"), nil, 5, done(9)},
		{"a call", with("const t1 n2, const t2 n40, const t1 n7, call n4", takes(3, api.Int, "get n1, call n1, get, get n2, bin t1 sub")), nil, 9, done(-5, 40)},
		{"below the operands", alone("const t1 n100, const t1 n7, const t1 n2, bin t1 sub, bin t1 sub"), nil, 5, done(95)},
		{"below a call", with("const t1 n100, const t1 n7, call n4, bin t1 sub", takes(1, api.Int, "get")), nil, 5, done(93)},
	})
}

// P12.3: a WIf goes into its Body unless it pops 0, and then into its Other, if there is one.
func TestIfs(t *testing.T) {
	of := func(n, lists, nest string) api.WModule {
		return alone(lists + " | const t1 n" + n + ", " + nest + ", get")
	}
	const five, six = "const t1 n5, set", "const t1 n6, set"
	try(t, []trial{
		{"1", of("1", five, "if o-1"), nil, 5, done(5)},
		{"-1", of("-1", five, "if o-1"), nil, 5, done(5)},
		{"the least", of("-2147483648", five, "if o-7"), nil, 5, done(5)},
		{"0", of("0", five, "if o-1"), nil, 3, done(0)},
		{"1 of two", of("1", five+" | "+six, "if o1"), nil, 5, done(5)},
		{"0 of two", of("0", five+" | "+six, "if o1"), nil, 5, done(6)},
		{"1 of two the other way", of("1", six+" | "+five, "if b1"), nil, 5, done(5)},
		{"0 of two the other way", of("0", six+" | "+five, "if b1"), nil, 5, done(6)},
	})
}

// P12.3: a branch to a block or an if goes to its end, and one to a loop to its beginning, which is no step; the end of a list is none either.
func TestBranchesGo(t *testing.T) {
	down := "get, const t1 n1, bin t1 sub, set, get, br_if"
	try(t, []trial{
		{"a block", alone("- | block, get"), nil, 2, done(0)},
		{"to the end of a block", alone("br, trap | block, get"), nil, 3, done(0)},
		{"to the end of an if", alone("br, trap | const t1 n1, if o-1, get"), nil, 4, done(0)},
		{"to the end of an else", alone("trap | br, trap | get, if o1, get"), nil, 4, done(0)},
		{"a loop is executed once", alone("const t1 n3, set | loop, get"), nil, 4, done(3)},
		{"to the beginning of a loop", alone(down + " | const t1 n3, set, loop, get"), nil, 2 + 1 + 3*6 + 1, done(0)},
		{"out of two", alone("br n1, trap | block, trap | block b1, get"), nil, 4, done(0)},
		{"out of one of two", alone("br, trap | block, const t1 n4, set | block b1, get"), nil, 6, done(4)},
		{"out of a loop", alone("br n1, trap | loop, trap | block b1, get"), nil, 4, done(0)},
		{"from within an if in a loop", alone("br n1, trap | get, const t1 n1, bin t1 add, set, get, const t1 n3, bin t1 lt_s, if o-1 | loop b1, get"), nil, 1 + 2*9 + 8 + 1, done(3)},
		{"not taken", alone("get, br_if, const t1 n4, set | block, get"), nil, 6, done(4)},
		{"taken", alone("const t1 n-1, br_if, const t1 n4, set | block, get"), nil, 4, done(0)},
		{"not taken to a loop", alone("get, br_if, const t1 n4, set | loop, get"), nil, 6, done(4)},
	})
	for _, lists := range []string{"br | loop, get", "get n1, br | loop, get", "const t1 n1, br_if | loop, get", "br n1 | block | loop b1, get", "br n1, trap | loop | loop b1, get"} {
		if run := Run(alone(lists), nil, 100000); !sample.SameRun(run, api.Run{Status: api.Going}) {
			t.Errorf("%s: %v", lists, run)
		}
	}
}

// P12.3: what belongs to the lists that are left is removed, also of a loop that begins anew; what belongs to those around them stays.
func TestWhatBranchesRemove(t *testing.T) {
	try(t, []trial{
		{"a block's", alone("const t1 n5, const t1 n6, br | const t1 n7, block"), nil, 5, done(7)},
		{"two blocks'", alone("const t1 n5, br n1 | const t2 n6, block, drop | const t1 n7, block b1"), nil, 6, done(7)},
		{"one of two blocks'", alone("const t1 n5, br | const t2 n6, block, call n1 | const t1 n7, block b1"), nil, 7, done(7, 6)},
		{"an if's", alone("const t1 n5, br | const t1 n7, const t1 n1, if o-1"), nil, 5, done(7)},
		{"by a branch that is taken", alone("const t1 n5, const t1 n1, br_if, drop | const t1 n7, block"), nil, 5, done(7)},
		{"by a branch that is not taken", alone("const t1 n5, const t1, br_if, set | const t1 n7, block, get, bin t1 sub"), nil, 8, done(2)},
		{"a loop's", alone("const t1 n5, get n2, const t1 n3, bin t1 ge_s, br_if n1, get n2, const t1 n1, bin t1 add, set n2, br | loop | const t1 n7, block b1"), nil, 3 + 3*10 + 5, done(7)},
		{"a loop's, from a list within it", alone("const t1 n8, br n1 | const t1 n5, get n2, const t1 n3, bin t1 ge_s, br_if n1, get n2, const t1 n1, bin t1 add, set n2, block, drop | loop b1 | const t1 n7, block b2"), nil, 3 + 3*12 + 5, done(7)},
	})
}

// P12.3: a branch to the body returns, as a WReturn does: what is on top is returned, and all else removed.
func TestReturns(t *testing.T) {
	called := func(kind int, lists, behind string) api.WModule {
		return with("const t1 n50, call n4"+behind, takes(0, kind, lists))
	}
	minus, out := ", bin t1 sub", ", call n1"
	try(t, []trial{
		{"at the end", called(api.Int, "const t1 n7", minus), nil, 4, done(43)},
		{"by a return", called(api.Int, "const t1 n9, const t1 n7, return", minus), nil, 6, done(43)},
		{"by a branch", called(api.Int, "const t2 n9, const t1 n7, br", minus), nil, 6, done(43)},
		{"by a branch that is taken", called(api.Int, "const t1 n7, const t1 n1, br_if, trap", minus), nil, 6, done(43)},
		{"by a branch that is not taken", called(api.Int, "const t1 n7, const t1, br_if", minus), nil, 6, done(43)},
		{"behind a branch that is not taken", called(api.Int, "const t1 n7, const t1, br_if, drop, const t1 n8", minus), nil, 8, done(42)},
		{"from within", called(api.Int, "const t1 n5, const t1 n7, return | const t2, loop, trap | const t1 n2, block b1, trap", minus), nil, 10, done(43)},
		{"by a branch from within", called(api.Int, "const t1 n5, const t1 n7, br n2 | const t2, loop, trap | const t1 n2, block b1, trap", minus), nil, 10, done(43)},
		{"by a branch that is taken from within", called(api.Int, "const t1 n7, const t1 n1, br_if n1, drop | const t1 n2, block", minus), nil, 8, done(43)},
		{"by a branch that is not taken from within", called(api.Int, "const t1 n7, const t1, br_if n1, drop | const t1 n2, block", minus), nil, 9, done(48)},
		{"a Long", called(api.Long, "const t1 n3, const t2 n7, return", out), nil, 6, done(50, 7)},
		{"nothing", called(api.Void, "const t1 n3, return, trap", ""), nil, 4, done(50)},
		{"nothing by a branch", called(api.Void, "const t1 n3, br n1 | const t1 n2, block, trap", ""), nil, 6, done(50)},
		{"nothing at the end", called(api.Void, "-", ""), nil, 2, done(50)},
		{"nothing by a branch that is taken", called(api.Void, "const t1 n3, br_if n1, trap | loop, trap", ""), nil, 5, done(50)},
		{"main's", alone("const t1 n3, const t1 n4, return, trap"), nil, 3, done(4)},
	})
}

// P12.3: a call has locals of its own, 0 but for its Params, and the memory is the same for all.
func TestCalls(t *testing.T) {
	try(t, []trial{
		{"twice", with("const t1 n9, call n4, call n4", takes(1, api.Int, "get n2, get, bin t1 sub, const t1 n5, set n2, const t1 n6, set")), nil, 3 + 2*7, done(9)},
		{"locals of its own", with("const t1 n4, set, call n4, get", takes(0, api.Void, "const t1 n8, set")), nil, 6, done(4)},
		{"the same memory", with("call n4, const t1, load t1 n1", takes(0, api.Void, "const t1, const t1 n8, store t1 n1")), nil, 6, done(8)},
	})
	wide := api.WFunc{Type: api.Long, Params: []int{api.Long, api.Int}, Lists: sample.Lists("get, get n1, extend, bin t2 add")}
	try(t, []trial{{"a Long", with("const t2 n1099511627776, const t1 n-1, call n4, call n1, get", wide), nil, 9, done(0, 1<<40-1)}})
}

// P12.3: main may stand anywhere, and may be called, too.
func TestMain(t *testing.T) {
	f := function(api.Int, "const t1 n1")
	again := function(api.Int, "const t1 n1, const t1 n2, store t1 n1, call n4, drop | const t1 n1, load t1 n1, eqz t1, if o-1, const t1 n1, load t1 n1")
	try(t, []trial{
		{"the second", api.WModule{Funcs: []api.WFunc{f, function(api.Int, "const t1 n2"), f}, Main: 1}, nil, 1, done(2)},
		{"twice", api.WModule{Funcs: []api.WFunc{f, again}, Main: 1, Memory: 2}, nil, 4 + 5 + 4 + 2 + 2, done(2)},
	})
}

// P12.3: 32 calls may be open, main's among them; the one after that traps. in and out are no such calls.
func TestOpenCalls(t *testing.T) {
	chain := func(calls int, behind string) api.WModule { // f(n) is n for 0, and otherwise f(n - 1)
		f := takes(1, api.Int, "get, const t1 n1, bin t1 sub, call n4, return | get, if o-1, "+behind+"get")
		return with("const t1 n"+strconv.Itoa(calls-2)+", call n4", f)
	}
	try(t, []trial{
		{"two", chain(2, ""), nil, 2 + 3, done(0)},
		{"three", chain(3, ""), nil, 2 + 7 + 3, done(0)},
		{"32", chain(32, ""), nil, 2 + 30*7 + 3, done(0)},
		{"33", chain(33, ""), nil, 2 + 31*6, trapped(api.TrapCalls)},
		{"out at the last", chain(32, "const t2 n6, call n1, "), nil, 2 + 30*7 + 5, done(0, 6)},
		{"in at the last", chain(32, "call, call n1, "), []int{4}, 2 + 30*7 + 5, done(0, 4)},
		{"trap at the last", chain(32, "const t1 n9, call n2, "), nil, 2 + 30*6 + 4, trapped(9)},
		{"main", alone("call n3"), nil, 32, trapped(api.TrapCalls)},
	})
	many := with("call n4, get, const t1 n1, bin t1 add, set, get, const t1 n100, bin t1 lt_s, br_if | loop, get", takes(0, api.Void, "return"))
	try(t, []trial{{"one after the other", many, nil, 1 + 100*10 + 1, done(100)}})
}
