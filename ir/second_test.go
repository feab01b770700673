package ir

import (
	"strings"

	"mortise/api"
	"mortise/word"
)

// A second reading of the chapter, by which package ir is held: a table of letters for what the registers must be, all errors that apply, of which the first is taken; and runs without recursion or panics, a step at a time.

// row is what the chapter's table says: the types of what is read, and of what is written, a letter each (see wanted).
type row struct{ reads, writes string }

func table() map[int]row {
	return map[int]row{
		api.IConst: {"", "?"}, api.ICopy: {"d", "?"}, api.IBin: {"tt", "c"}, api.IConv: {"?", "r"},
		api.ILoad: {"L", "e"}, api.IStore: {"Le", ""}, api.IGet: {"", "g"}, api.ISet: {"g", ""},
		api.ICall: {"*", "f"}, api.IIn: {"", "L"}, api.IOut: {"L", ""},
	}
}

// register is the type of a register, 0 if it isn't there.
func register(f api.Code, at int) int {
	if at < 0 || at >= len(f.Regs) {
		return 0
	}
	return f.Regs[at]
}

func contains(l []string, s string) bool {
	for _, x := range l {
		if x == s {
			return true
		}
	}
	return false
}

// whatever is wanted where any type will do.
const whatever = -1000

// wanted is the type that a letter stands for.
func wanted(m api.Module, f api.Code, i api.Instr, letter byte) int {
	wide := func(t int) int { return map[bool]int{true: api.Long, false: api.Int}[t == api.Long] }
	switch letter {
	case 'd':
		return register(f, i.Dst)
	case 't':
		return i.Type
	case 'c':
		if contains(strings.Fields("== != < <= > >="), i.S) {
			return api.Int
		}
		return i.Type
	case 'r':
		return wide(i.Type)
	case 'L':
		return api.Long
	case 'e':
		return wide(m.Globals[i.N].Type)
	case 'g':
		return m.Globals[i.N].Type
	case 'f':
		return m.Funcs[i.N].Type
	}
	return whatever
}

// operands are the registers that an instruction reads, and the types that they must have, if that can be told.
func operands(m api.Module, f api.Code, i api.Instr, known bool) (registers, types []int) {
	letters := table()[i.Op].reads
	if letters == "*" {
		for k, a := range i.Args {
			registers = append(registers, a)
			if known {
				types = append(types, m.Funcs[i.N].Regs[k])
			}
		}
		return
	}
	for k := range len(letters) {
		registers = append(registers, []int{i.A, i.B}[k])
		if known {
			types = append(types, wanted(m, f, i, letters[k]))
		}
	}
	return
}

// indexed tells whether N is an index of its kind.
func indexed(m api.Module, i api.Instr) bool {
	size := -1 // that is neither an array's nor a scalar's
	if 0 <= i.N && i.N < len(m.Globals) {
		size = m.Globals[i.N].Size
	}
	switch i.Op {
	case api.ILoad, api.IStore:
		return size >= 1
	case api.IGet, api.ISet:
		return size == 0
	case api.ICall:
		return 0 <= i.N && i.N < len(m.Funcs) && m.Funcs[i.N].Params <= len(m.Funcs[i.N].Regs)
	}
	return true
}

func instructionError(m api.Module, f api.Code, i api.Instr) api.Errno {
	r, known := table()[i.Op]
	signs := strings.Fields("+ - * / % & | ^ << >> == != < <= > >=")
	if !known || i.Op == api.IBin && !contains(signs, i.S) || i.Op == api.IConv && word.Width(i.Type) == 0 {
		return api.ErrForm
	}
	registers, _ := operands(m, f, i, false)
	writes := r.writes != "" && !(i.Op == api.ICall && i.Dst < 0)
	if writes {
		registers = append(registers, i.Dst)
	}
	for _, at := range registers {
		if register(f, at) == 0 {
			return api.ErrRange
		}
	}
	if !indexed(m, i) || i.Op == api.IConst && word.Wrap(register(f, i.Dst), i.N) != i.N {
		return api.ErrRange
	}
	if i.Op == api.ICall && m.Funcs[i.N].Params != len(i.Args) {
		return api.ErrArgs
	}
	_, types := operands(m, f, i, true)
	if writes {
		types = append(types, wanted(m, f, i, r.writes[0]))
	}
	for k, want := range types {
		if want != whatever && register(f, registers[k]) != want {
			return api.ErrType
		}
	}
	return api.OK
}

func endError(f api.Code, e api.End) api.Errno {
	ends := map[int][]int{api.Jump: {e.To}, api.Branch: {e.To, e.Else}, api.Return: {}}
	tos, ok := ends[e.Kind]
	if !ok {
		return api.ErrForm
	}
	for _, to := range tos {
		if to < 0 || to >= len(f.Blocks) {
			return api.ErrRange
		}
	}
	reads := e.Kind == api.Branch || e.Kind == api.Return && e.A >= 0
	if reads && register(f, e.A) == 0 {
		return api.ErrRange
	}
	if e.Kind == api.Branch && register(f, e.A) != api.Int || e.Kind == api.Return && reads != (f.Type != api.Void) {
		return api.ErrType
	}
	if e.Kind == api.Return && reads && register(f, e.A) != f.Type {
		return api.ErrType
	}
	return api.OK
}

func headError(f api.Code) api.Errno {
	if len(f.Blocks) == 0 || len(f.Blocks) > 400 || len(f.Regs) > 4096 {
		return api.ErrMany
	}
	if f.Params < 0 || f.Params > len(f.Regs) {
		return api.ErrRange
	}
	for _, t := range f.Regs {
		if t != api.Int && t != api.Long {
			return api.ErrType
		}
	}
	if f.Type != api.Void && f.Type != api.Int && f.Type != api.Long {
		return api.ErrType
	}
	return api.OK
}

// secondCheck is what Check returns, by the second reading: the first of all errors.
func secondCheck(m api.Module) api.Errno {
	var l []api.Errno
	for _, g := range m.Globals {
		if word.Width(g.Type) < 32 && !(word.Width(g.Type) == 8 && g.Size > 0) {
			l = append(l, api.ErrType)
		}
	}
	for _, f := range m.Funcs {
		head := headError(f)
		l = append(l, head)
		if head != api.OK {
			break
		}
		for _, b := range f.Blocks {
			for _, i := range b.Code {
				l = append(l, instructionError(m, f, i))
			}
			l = append(l, endError(f, b.End))
		}
	}
	main := api.ErrMain
	for _, f := range m.Funcs {
		if f.Name == "main" {
			if f.Type == api.Int && f.Params == 0 {
				main = api.OK
			}
			break
		}
	}
	for _, e := range append(l, main) {
		if e != api.OK {
			return e
		}
	}
	return api.OK
}

// second runs a module.
type second struct {
	m      api.Module
	run    api.Run
	input  []int
	memory map[[2]int]int // by global and element; a scalar's element is 0
	open   []place
}

// place is an open call: where it stands, its registers, and where its result goes in the call below it.
type place struct {
	function, block, at int
	registers           []int
	dst                 int
}

// secondRun is what Run returns, by the second reading.
func secondRun(m api.Module, input []int, steps int) api.Run {
	s := &second{m: m, input: input, memory: map[[2]int]int{}}
	for i, f := range m.Funcs {
		if f.Name == "main" {
			s.open = []place{{function: i, registers: make([]int, len(f.Regs)), dst: -1}}
			break
		}
	}
	for taken := 0; s.run.Status == 0; taken++ {
		if taken >= steps {
			s.run.Status = api.Going
			break
		}
		s.step()
	}
	return s.run
}

func (s *second) trap(number int) { s.run.Status, s.run.Code = api.Trapped, number }

func (s *second) step() {
	here := &s.open[len(s.open)-1]
	b := s.m.Funcs[here.function].Blocks[here.block]
	if here.at == len(b.Code) {
		s.end(here, b.End)
		return
	}
	here.at++
	s.instruction(here, b.Code[here.at-1])
}

func (s *second) end(here *place, e api.End) {
	switch {
	case e.Kind == api.Return && len(s.open) == 1:
		s.run.Status, s.run.Code = api.Done, here.registers[e.A]
	case e.Kind == api.Return:
		s.open = s.open[:len(s.open)-1]
		if here.dst >= 0 {
			s.open[len(s.open)-1].registers[here.dst] = here.registers[e.A]
		}
	case e.Kind == api.Branch && here.registers[e.A] == 0:
		here.block, here.at = e.Else, 0
	default:
		here.block, here.at = e.To, 0
	}
}

func (s *second) instruction(here *place, i api.Instr) {
	r := here.registers
	switch i.Op {
	case api.IConst:
		r[i.Dst] = i.N
	case api.ICopy:
		r[i.Dst] = r[i.A]
	case api.IBin:
		v, trap := word.Bin(i.Type, i.S, r[i.A], r[i.B])
		if trap != api.NoTrap {
			s.trap(trap)
			return
		}
		r[i.Dst] = v
	case api.IConv:
		r[i.Dst] = word.Wrap(i.Type, r[i.A])
	case api.ILoad, api.IStore:
		s.element(r, i)
	case api.IGet:
		r[i.Dst] = s.memory[[2]int{i.N, 0}]
	case api.ISet:
		s.memory[[2]int{i.N, 0}] = r[i.A]
	case api.ICall:
		s.call(r, i)
	case api.IIn:
		r[i.Dst] = 0
		if len(s.input) > 0 {
			r[i.Dst], s.input = s.input[0], s.input[1:]
		}
	case api.IOut:
		s.run.Out = append(s.run.Out, r[i.A])
	}
}

func (s *second) element(r []int, i api.Instr) {
	g, at := s.m.Globals[i.N], [2]int{i.N, r[i.A]}
	if at[1] < 0 || at[1] > g.Size-1 {
		s.trap(api.TrapIndex)
		return
	}
	if i.Op == api.ILoad {
		r[i.Dst] = s.memory[at]
	} else {
		s.memory[at] = word.Wrap(g.Type, r[i.B])
	}
}

func (s *second) call(r []int, i api.Instr) {
	if len(s.open) == 32 {
		s.trap(api.TrapCalls)
		return
	}
	fresh := make([]int, len(s.m.Funcs[i.N].Regs))
	for k, a := range i.Args {
		fresh[k] = r[a]
	}
	s.open = append(s.open, place{function: i.N, registers: fresh, dst: i.Dst})
}
