package ir

import (
	"math"
	"slices"
	"testing"

	"mortise/api"
)

// Registers and globals of the modules below.
const (
	int0, int1, int2    = 0, 1, 2
	long0, long1, long2 = 3, 4, 5
	none                = 6 // there is no such register

	scalarInt, scalarLong         = 0, 1
	arrayChar, arrayInt, arrayLon = 2, 3, 4
	noGlobal                      = 5

	callVoid, callInt, callLong, mainAt = 0, 1, 2, 3
	noFunction                          = 4
)

func someGlobals() []api.Global {
	return []api.Global{scalar(api.Int), scalar(api.Long), array(api.Char, 1), array(api.Int, 9), array(api.Long, 2)}
}

// around is a module whose main has an instruction, besides functions that it may call.
func around(i api.Instr) api.Module {
	pair := []int{api.Int, api.Long}
	return api.Module{Globals: someGlobals(), Funcs: []api.Code{
		{Name: "void", Regs: pair, Blocks: []api.Block{block(leave(-1))}},
		{Name: "int", Type: api.Int, Params: 2, Regs: pair, Blocks: []api.Block{block(leave(0))}},
		{Name: "long", Type: api.Long, Params: 1, Regs: pair, Blocks: []api.Block{block(leave(1))}},
		{Name: "main", Type: api.Int, Regs: append(ints(3), longs(3)...), Blocks: []api.Block{block(leave(int0), i)}},
	}}
}

// P6.2: the right instructions of each row.
func TestRightInstructions(t *testing.T) {
	for _, i := range []api.Instr{
		set(int0, 0), set(int0, 1<<31-1), set(int0, leastInt), set(long0, math.MaxInt), set(long0, leastLong),
		move(int0, int1), move(int0, int0), move(long0, long2),
		bin(api.Int, int0, int1, "+", int2), bin(api.Long, long0, long0, ">>", long0), bin(api.Int, int0, int1, "<", int2), bin(api.Long, int0, long1, "==", long2),
		conv(api.Int, int0, int1), conv(api.Int, int0, long1), conv(api.Char, int0, int1), conv(api.Char, int0, long0), conv(api.Long, long0, int0), conv(api.Long, long0, long0),
		load(int0, arrayChar, long0), load(int0, arrayInt, long0), load(long0, arrayLon, long0),
		store(arrayChar, long0, int0), store(arrayInt, long0, int0), store(arrayLon, long0, long0),
		get(int0, scalarInt), get(long0, scalarLong), put(scalarInt, int0), put(scalarLong, long0),
		call(-1, callVoid), call(math.MinInt, callVoid), call(int0, callInt, int0, long0), call(-1, callInt, int0, long0), call(long0, callLong, int0), call(-9, callLong, int2), call(int0, mainAt), call(-1, mainAt),
		in(long0), out(long2),
		{Op: api.IConst, Type: 9, Dst: int0, A: none, B: -1, S: "?", Args: []int{none}}, // fields that its row does not name
		{Op: api.IOut, Dst: none, A: long0, B: none, N: -1, S: "?", Args: []int{-1}},
	} {
		if wrong := Check(around(i)); wrong != api.OK {
			t.Errorf("%+v: error %d", i, wrong)
		}
	}
	for _, s := range []string{"+", "-", "*", "/", "%", "&", "|", "^", "<<", ">>", "==", "!=", "<", "<=", ">", ">="} {
		to := long0
		if slices.Contains([]string{"==", "!=", "<", "<=", ">", ">="}, s) {
			to = int0
		}
		if wrong := Check(around(bin(api.Long, to, long1, s, long2))); wrong != api.OK {
			t.Errorf("%s: error %d", s, wrong)
		}
	}
}

// P6.2: what is wrong with an instruction, and which error is told where several apply.
func TestWrongInstructions(t *testing.T) {
	for _, x := range []struct {
		want api.Errno
		l    []api.Instr
	}{
		{api.ErrForm, []api.Instr{
			{}, {Op: 12, Dst: int0}, {Op: -1}, {Op: math.MinInt}, {Op: math.MaxInt},
			bin(api.Int, int0, int1, "", int2), bin(api.Int, int0, int1, "!", int2), bin(api.Int, int0, int1, "~", int2), bin(api.Int, int0, int1, "&&", int2), bin(api.Int, int0, int1, "||", int2), bin(api.Int, int0, int1, "=", int2), bin(api.Int, int0, int1, "add", int2), bin(api.Int, int0, int1, "+ ", int2),
			conv(api.Void, int0, int1), conv(4, int0, int1), conv(-1, int0, int1),
			{Op: 99, Dst: none, A: none, B: -1, N: -1, Args: []int{none}}, bin(api.Char, none, -1, "?", int2), conv(9, none, -1),
		}},
		{api.ErrRange, []api.Instr{
			set(none, 0), set(-1, 0), set(math.MinInt, 0), set(math.MaxInt, 0), set(int0, 1<<31), set(int0, leastInt-1), set(int0, leastLong),
			move(none, int0), move(int0, none), move(-1, int0), move(int0, -1),
			bin(api.Int, none, int0, "+", int0), bin(api.Int, int0, none, "+", int0), bin(api.Int, int0, int0, "+", none), bin(api.Int, -1, int0, "+", int0), bin(api.Int, int0, -1, "+", int0), bin(api.Int, int0, int0, "+", -1),
			conv(api.Int, none, int0), conv(api.Int, int0, none), conv(api.Int, -1, int0), conv(api.Int, int0, -1),
			load(none, arrayInt, long0), load(-1, arrayInt, long0), load(int0, arrayInt, none), load(int0, arrayInt, -1), load(int0, noGlobal, long0), load(int0, -1, long0), load(int0, scalarInt, long0), load(long0, scalarLong, long0), load(int0, math.MinInt, long0),
			store(arrayInt, none, int0), store(arrayInt, -1, int0), store(arrayInt, long0, none), store(arrayInt, long0, -1), store(noGlobal, long0, int0), store(-1, long0, int0), store(scalarInt, long0, int0), store(math.MaxInt, long0, int0),
			get(none, scalarInt), get(-1, scalarInt), get(int0, noGlobal), get(int0, -1), get(int0, arrayInt), get(int0, arrayChar), get(long0, arrayLon),
			put(scalarInt, none), put(scalarInt, -1), put(noGlobal, int0), put(-1, int0), put(arrayInt, int0),
			call(none, callInt, int0, long0), call(math.MaxInt, callInt, int0, long0), call(-1, callInt, none, long0), call(-1, callInt, int0, -1), call(-1, noFunction), call(-1, -1), call(-1, math.MaxInt),
			in(none), in(-1), out(none), out(-1),
			// ahead of other errors
			bin(api.Long, int0, int0, "+", none), bin(api.Char, int0, none, "<", int1), move(long0, none), load(long0, scalarInt, int0), store(-1, int0, long0), get(long0, arrayInt), call(-1, callInt, none), call(none, callInt), call(none, callVoid), call(long0, callInt, -1, int0, int0), call(-1, noFunction, none),
		}},
		{api.ErrArgs, []api.Instr{
			call(-1, callInt), call(-1, callInt, int0), call(-1, callInt, int0, long0, int0), call(-1, callVoid, int0), call(long0, callLong), call(int0, mainAt, int0),
			call(long0, callInt, long0), call(int0, callVoid, long0), call(int0, callLong, long0, long0),
		}},
		{api.ErrType, []api.Instr{
			move(int0, long0), move(long0, int0),
			bin(api.Int, int0, int0, "+", long0), bin(api.Int, int0, long0, "+", int0), bin(api.Int, long0, int0, "+", int0), bin(api.Long, long0, long0, "<<", int0), bin(api.Long, int0, long0, "+", long0), bin(api.Long, long0, long0, "<", long0), bin(api.Long, int0, int0, "<", int0), bin(api.Int, int0, long0, "==", long0), bin(api.Char, int0, int0, "+", int0), bin(api.Void, int0, int0, "<", int0), bin(9, int0, int0, "+", int0),
			conv(api.Int, long0, int0), conv(api.Char, long0, long0), conv(api.Long, int0, long0),
			load(int0, arrayInt, int0), load(long0, arrayInt, long0), load(long0, arrayChar, long0), load(int0, arrayLon, long0),
			store(arrayInt, int0, int0), store(arrayInt, long0, long0), store(arrayChar, long0, long0), store(arrayLon, long0, int0),
			get(long0, scalarInt), get(int0, scalarLong), put(scalarInt, long0), put(scalarLong, int0),
			call(int0, callVoid), call(long0, callVoid), call(long0, callInt, int0, long0), call(int0, callLong, int0), call(-1, callInt, long0, long0), call(-1, callInt, int0, int0), call(-1, callLong, long0), call(long0, mainAt),
			in(int0), out(int0),
		}},
	} {
		for _, i := range x.l {
			if got := Check(around(i)); got != x.want {
				t.Errorf("%+v: error %d, want %d", i, got, x.want)
			}
		}
	}
}

// P6.2: a call of a function that stands behind is held against what is said there, before that is checked itself.
func TestCallsOfWrongFunctions(t *testing.T) {
	for _, x := range []struct {
		f    api.Code
		i    api.Instr
		want api.Errno
	}{
		{api.Code{Type: api.Int, Params: 3, Regs: ints(2)}, call(int0, 1, int0, int0, int0), api.ErrRange},
		{api.Code{Type: api.Int, Params: math.MaxInt, Regs: ints(2)}, call(int0, 1), api.ErrRange},
		{api.Code{Type: api.Int, Params: 2, Regs: ints(2)}, call(int0, 1, int0, int1), api.ErrMany}, // it has no block
		{api.Code{Type: api.Int, Params: -1, Regs: ints(2)}, call(int0, 1), api.ErrArgs},
		{api.Code{Type: api.Int, Params: math.MinInt}, call(int0, 1, int0), api.ErrArgs},
		{api.Code{Type: api.Int, Params: 1, Regs: []int{api.Char}}, call(int0, 1, int0), api.ErrType},
		{api.Code{Type: api.Char}, call(int0, 1), api.ErrType},
		{api.Code{Type: api.Char}, call(-1, 1), api.ErrMany},
		{api.Code{Type: 9, Blocks: []api.Block{block(leave(-1))}}, call(-1, 1), api.ErrType}, // its own
	} {
		m := alone(ints(2), block(leave(0), x.i))
		m.Funcs = append(m.Funcs, x.f)
		if got := Check(m); got != x.want {
			t.Errorf("%+v, %+v: error %d, want %d", x.f, x.i, got, x.want)
		}
	}
}

// P6.2: what is wrong with an end.
func TestEndsOfBlocks(t *testing.T) {
	for _, x := range []struct {
		kind int // of the function
		e    api.End
		want api.Errno
	}{
		{api.Int, jump(0), api.OK}, {api.Int, jump(1), api.OK}, {api.Int, jump(2), api.ErrRange}, {api.Int, jump(-1), api.ErrRange}, {api.Int, jump(math.MaxInt), api.ErrRange},
		{api.Int, api.End{Kind: api.Jump, To: 1, A: none, Else: -1}, api.OK},
		{api.Int, branch(int0, 0, 1), api.OK}, {api.Int, branch(int0, 1, 1), api.OK},
		{api.Int, branch(int0, 2, 1), api.ErrRange}, {api.Int, branch(int0, 1, 2), api.ErrRange}, {api.Int, branch(int0, -1, 1), api.ErrRange}, {api.Int, branch(int0, 1, -1), api.ErrRange}, {api.Int, branch(none, 0, 1), api.ErrRange}, {api.Int, branch(-1, 0, 1), api.ErrRange},
		{api.Int, branch(long0, 0, 1), api.ErrType}, {api.Int, branch(long0, 0, 2), api.ErrRange},
		{api.Int, leave(int0), api.OK}, {api.Int, api.End{Kind: api.Return, A: int2, To: 9, Else: -1}, api.OK}, {api.Int, leave(long0), api.ErrType}, {api.Int, leave(-1), api.ErrType}, {api.Int, leave(none), api.ErrRange}, {api.Int, leave(math.MaxInt), api.ErrRange},
		{api.Long, leave(long0), api.OK}, {api.Long, leave(int0), api.ErrType}, {api.Long, leave(-1), api.ErrType}, {api.Long, leave(none), api.ErrRange},
		{api.Void, leave(-1), api.OK}, {api.Void, leave(math.MinInt), api.OK}, {api.Void, leave(int0), api.ErrType}, {api.Void, leave(long0), api.ErrType}, {api.Void, leave(none), api.ErrRange},
		{api.Int, api.End{}, api.ErrForm}, {api.Int, api.End{Kind: 4}, api.ErrForm}, {api.Int, api.End{Kind: -1, A: none, To: 2}, api.ErrForm},
	} {
		for at := range 2 { // a block that no end leads to is checked, too
			m := alone(ints(1), block(leave(0)))
			f := api.Code{Name: "f", Type: x.kind, Regs: append(ints(3), longs(3)...), Blocks: []api.Block{block(jump(0)), block(jump(1))}}
			f.Blocks[at].End = x.e
			m.Funcs = append(m.Funcs, f)
			if got := Check(m); got != x.want {
				t.Errorf("type %d, %+v: error %d, want %d", x.kind, x.e, got, x.want)
			}
		}
	}
}

// P6.2: globals, and what stands around a function's blocks.
func TestGlobalsAndHeads(t *testing.T) {
	many := func(n int) []api.Block { return slices.Repeat([]api.Block{block(leave(0))}, n) }
	for i, x := range []struct {
		m    api.Module
		want api.Errno
	}{
		{api.Module{}, api.ErrMain},
		{with([]api.Global{array(api.Char, 0)}, ints(1), block(leave(0))), api.ErrType},
		{with([]api.Global{array(api.Char, -1)}, ints(1), block(leave(0))), api.ErrType},
		{with([]api.Global{array(api.Char, 1)}, ints(1), block(leave(0))), api.OK},
		{with([]api.Global{array(api.Int, math.MaxInt), array(api.Long, 5)}, ints(1), block(leave(0))), api.OK},
		{with([]api.Global{scalar(api.Int), scalar(api.Void)}, ints(1), block(leave(0))), api.ErrType},
		{with([]api.Global{scalar(4)}, ints(1), block(leave(0))), api.ErrType},
		{with([]api.Global{array(api.Void, 3)}, ints(1), block(leave(0))), api.ErrType},
		{alone(ints(1)), api.ErrMany},
		{alone(ints(1), many(400)...), api.OK},
		{alone(ints(1), many(401)...), api.ErrMany},
		{alone(ints(4096), block(leave(4095))), api.OK},
		{alone(ints(4097), block(leave(0))), api.ErrMany},
		{alone([]int{api.Int, api.Char}, block(leave(0))), api.ErrType},
		{alone([]int{api.Int, api.Void}, block(leave(0))), api.ErrType},
		{alone([]int{api.Int, 4, -1}, block(leave(0))), api.ErrType},
	} {
		if got := Check(x.m); got != x.want {
			t.Errorf("%d: error %d, want %d", i, got, x.want)
		}
	}
	for _, x := range []struct {
		kind, params int
		want         api.Errno
	}{
		{api.Int, 0, api.OK}, {api.Int, 2, api.OK}, {api.Int, 3, api.ErrRange}, {api.Int, -1, api.ErrRange}, {api.Int, math.MinInt, api.ErrRange},
		{api.Char, 0, api.ErrType}, {4, 0, api.ErrType}, {-1, 2, api.ErrType}, {api.Char, 3, api.ErrRange},
	} {
		m := alone(ints(1), block(leave(0)))
		m.Funcs = append(m.Funcs, api.Code{Name: "f", Type: x.kind, Params: x.params, Regs: ints(2), Blocks: []api.Block{block(leave(0))}})
		if got := Check(m); got != x.want {
			t.Errorf("type %d, %d parameters: error %d, want %d", x.kind, x.params, got, x.want)
		}
	}
}

// P6.2: main, the first one, is an Int without parameters.
func TestMainIsChecked(t *testing.T) {
	function := func(name string, kind, params int) api.Code {
		regs := append(ints(1), longs(1)...)
		return api.Code{Name: name, Type: kind, Params: params, Regs: regs, Blocks: []api.Block{block(leave(kind - 1))}}
	}
	for _, x := range []struct {
		l    []api.Code
		want api.Errno
	}{
		{[]api.Code{function("main", api.Int, 0)}, api.OK},
		{[]api.Code{function("f", api.Int, 0), function("Main", api.Int, 0), function("", api.Int, 0)}, api.ErrMain},
		{[]api.Code{function("main", api.Void, 0)}, api.ErrMain},
		{[]api.Code{function("main", api.Long, 0)}, api.ErrMain},
		{[]api.Code{function("main", api.Int, 1)}, api.ErrMain},
		{[]api.Code{function("main", api.Long, 0), function("main", api.Int, 0)}, api.ErrMain},
		{[]api.Code{function("f", api.Long, 2), function("main", api.Int, 0), function("main", api.Long, 2), function("f", api.Void, 0)}, api.OK},
	} {
		if got := Check(api.Module{Funcs: x.l}); got != x.want {
			t.Errorf("%+v: error %d, want %d", x.l, got, x.want)
		}
	}
}

// fault is something that is done to a module, and the error that this is.
type fault struct {
	name string
	want api.Errno
	do   func(m *api.Module)
}

// faults are what can be done to the module of faultless, in the order in which the errors of it are told.
func faults() []fault {
	at := func(m *api.Module, f, b, i int) *api.Instr { return &m.Funcs[f].Blocks[b].Code[i] }
	return []fault{
		{"global", api.ErrType, func(m *api.Module) { m.Globals[0].Type = api.Char }},
		{"later global", api.ErrType, func(m *api.Module) { m.Globals[1].Type = api.Void }},
		{"registers", api.ErrMany, func(m *api.Module) { m.Funcs[0].Regs = append(m.Funcs[0].Regs, ints(4097)...) }},
		{"params", api.ErrRange, func(m *api.Module) { m.Funcs[0].Params = -1 }},
		{"type", api.ErrType, func(m *api.Module) { m.Funcs[0].Type = api.Char }},
		{"sign", api.ErrForm, func(m *api.Module) { at(m, 0, 0, 0).S = "!" }},
		{"operand", api.ErrRange, func(m *api.Module) { at(m, 0, 0, 0).B = 9 }},
		{"operand's type", api.ErrType, func(m *api.Module) { at(m, 0, 0, 0).A = 1 }},
		{"second instruction", api.ErrForm, func(m *api.Module) { at(m, 0, 0, 1).Op = 0 }},
		{"end", api.ErrForm, func(m *api.Module) { m.Funcs[0].Blocks[0].End.Kind = 0 }},
		{"end's block", api.ErrRange, func(m *api.Module) { m.Funcs[0].Blocks[0].End.Else = 2 }},
		{"end's type", api.ErrType, func(m *api.Module) { m.Funcs[0].Blocks[0].End.A = 1 }},
		{"second block", api.ErrForm, func(m *api.Module) { at(m, 0, 1, 0).Op = 12 }},
		{"second block's end", api.ErrType, func(m *api.Module) { m.Funcs[0].Blocks[1].End.A = 1 }},
		{"second function", api.ErrMany, func(m *api.Module) { m.Funcs[1].Regs = append(m.Funcs[1].Regs, ints(4097)...) }},
		{"callee", api.ErrRange, func(m *api.Module) { at(m, 1, 0, 0).N = 2 }},
		{"arguments", api.ErrArgs, func(m *api.Module) { at(m, 1, 0, 0).Args = []int{0} }},
		{"result", api.ErrType, func(m *api.Module) { at(m, 1, 0, 0).Dst = 1 }},
		{"main", api.ErrMain, func(m *api.Module) { m.Funcs[1].Name = "" }},
	}
}

func faultless() api.Module {
	pair := []int{api.Int, api.Long}
	return api.Module{Globals: []api.Global{scalar(api.Int), array(api.Char, 4)}, Funcs: []api.Code{
		{Name: "f", Type: api.Int, Regs: slices.Clone(pair), Blocks: []api.Block{
			block(branch(0, 0, 1), bin(api.Int, 0, 0, "<<", 0), in(1)),
			block(leave(0), out(1)),
		}},
		{Name: "main", Type: api.Int, Regs: slices.Clone(pair), Blocks: []api.Block{block(leave(0), call(0, 0))}},
	}}
}

// P6.2: of two errors the one that comes first is told.
func TestOrderOfErrors(t *testing.T) {
	if wrong := Check(faultless()); wrong != api.OK {
		t.Fatal(wrong)
	}
	l := faults()
	for i, first := range l {
		for _, second := range l[i:] {
			for _, pair := range [][]fault{{first, second}, {second, first}} {
				m := faultless()
				pair[0].do(&m)
				pair[1].do(&m)
				if got := Check(m); got != first.want {
					t.Errorf("%s, %s: error %d, want %d", pair[0].name, pair[1].name, got, first.want)
				}
			}
		}
	}
}
