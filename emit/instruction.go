package emit

import "mortise/api"

// The functions that are called by these numbers are not the module's; its own follow.
const (
	inFunction = iota
	outFunction
	trapFunction
	imported
)

// charShift is by how many bits a Char is shifted up and down again, so that it has the sign of its highest bit.
const charShift = 24

func get(register int) api.W { return api.W{Op: api.WGet, N: register} }

func set(register int) api.W { return api.W{Op: api.WSet, N: register} }

func constant(t, n int) api.W { return api.W{Op: api.WConst, Type: t, N: n} }

func bin(t int, sign string) api.W { return api.W{Op: api.WBin, Type: t, S: sign} }

func call(function int) api.W { return api.W{Op: api.WCall, N: function} }

func (w *writer) instruction(i api.Instr) {
	switch i.Op {
	case api.IConst:
		w.add(constant(w.code.Regs[i.Dst], i.N), set(i.Dst))
	case api.ICopy:
		w.add(get(i.A), set(i.Dst))
	case api.IBin:
		w.add(get(i.A), get(i.B), bin(i.Type, signOf(i.S)), set(i.Dst))
	case api.IConv:
		w.convert(i)
	case api.ILoad:
		w.element(i)
		w.add(w.load(i.N), set(i.Dst))
	case api.IStore:
		w.element(i)
		w.add(get(i.B), w.store(i.N))
	case api.IGet:
		w.add(w.offset(i.N), w.load(i.N), set(i.Dst))
	case api.ISet:
		w.add(w.offset(i.N), get(i.A), w.store(i.N))
	case api.ICall:
		w.call(i)
	case api.IIn:
		w.add(call(inFunction), set(i.Dst))
	case api.IOut:
		w.add(get(i.A), call(outFunction))
	}
}

func (w *writer) convert(i api.Instr) {
	w.add(get(i.A))
	isLong := w.code.Regs[i.A] == api.Long
	switch {
	case isLong && i.Type != api.Long:
		w.add(api.W{Op: api.WWrap})
	case !isLong && i.Type == api.Long:
		w.add(api.W{Op: api.WExtend})
	}
	if i.Type == api.Char {
		shift := constant(api.Int, charShift)
		w.add(shift, bin(api.Int, "shl"), shift, bin(api.Int, "shr_s"))
	}
	w.add(set(i.Dst))
}

// element pushes the address of an element of an array, or traps if it is not there.
func (w *writer) element(i api.Instr) {
	w.check(i.A, w.Globals[i.N].Size)
	w.add(get(i.A), api.W{Op: api.WWrap}, constant(api.Int, w.places[i.N].bytes()), bin(api.Int, "mul"))
	w.add(w.offset(i.N), bin(api.Int, "add"))
}

// check traps unless a register is an index of so many elements.
func (w *writer) check(register, size int) {
	trap := w.nested(func() { w.add(constant(api.Int, api.TrapIndex), call(trapFunction)) })
	w.add(get(register), constant(api.Long, 0), bin(api.Long, "lt_s"))
	w.add(get(register), constant(api.Long, size), bin(api.Long, "ge_s"))
	w.add(bin(api.Int, "or"), api.W{Op: api.WIf, Body: trap, Other: -1})
}

// offset pushes the offset of a global.
func (w *writer) offset(global int) api.W {
	return constant(api.Int, w.places[global].offset())
}

func (w *writer) load(global int) api.W { return w.access(api.WLoad, global) }

func (w *writer) store(global int) api.W { return w.access(api.WStore, global) }

// access loads or stores a global, or an element of one.
func (w *writer) access(op, global int) api.W {
	t := api.Int
	if w.Globals[global].Type == api.Long {
		t = api.Long
	}
	return api.W{Op: op, Type: t, N: w.places[global].bytes()}
}

func (w *writer) call(i api.Instr) {
	for _, a := range i.Args {
		w.add(get(a))
	}
	w.add(call(i.N + imported))
	switch {
	case i.Dst >= 0:
		w.add(set(i.Dst))
	case w.Funcs[i.N].Type != api.Void:
		w.add(api.W{Op: api.WDrop})
	}
}

// signs are the signs of operations, and those of Wasm.
var signs = [...]struct{ ir, wasm string }{
	{"+", "add"}, {"-", "sub"}, {"*", "mul"}, {"/", "div_s"}, {"%", "rem_s"},
	{"&", "and"}, {"|", "or"}, {"^", "xor"}, {"<<", "shl"}, {">>", "shr_s"},
	{"==", "eq"}, {"!=", "ne"}, {"<", "lt_s"}, {"<=", "le_s"}, {">", "gt_s"}, {">=", "ge_s"},
}

// signOf is the sign of Wasm for an operation.
func signOf(operation string) string {
	for _, s := range signs {
		if s.ir == operation {
			return s.wasm
		}
	}
	return ""
}
