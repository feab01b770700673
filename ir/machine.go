package ir

import (
	"mortise/api"
	"mortise/word"
)

// machine runs a module, and knows how far it has come.
type machine struct {
	api.Module
	input    []int // what was not read yet
	out      []int
	steps    int             // that are left
	scalars  []int           // the globals' values, where they are scalars
	elements map[element]int // those that were stored: an array may be greater than any memory
	calls    int             // that are open
}

// element is an element of an array.
type element struct{ array, index int }

// ending is how a run ends early: by a trap, or as no step is left.
type ending struct{ status, code int }

func newMachine(m api.Module, input []int, steps int) *machine {
	return &machine{Module: m, input: input, steps: steps, scalars: make([]int, len(m.Globals)), elements: map[element]int{}}
}

// step takes a step, for an instruction or an end.
func (m *machine) step() {
	if m.steps <= 0 {
		panic(ending{status: api.Going})
	}
	m.steps--
}

// trap ends the run.
func trap(number int) { panic(ending{api.Trapped, number}) }

// call is what a call of a function returns.
func (m *machine) call(function int, arguments []int) int {
	if m.calls >= api.MaxCalls {
		trap(api.TrapCalls)
	}
	m.calls++
	f := &m.Funcs[function]
	registers := make([]int, len(f.Regs))
	copy(registers, arguments)
	for at := 0; ; {
		b := &f.Blocks[at]
		m.code(registers, b.Code)
		m.step()
		if b.End.Kind == api.Return {
			m.calls--
			return returned(registers, b.End.A)
		}
		at = next(registers, b.End)
	}
}

// returned is what a return returns: nobody asks for it where there is no register.
func returned(registers []int, at int) int {
	if at < 0 {
		return 0
	}
	return registers[at]
}

// next is the block to which an end goes that doesn't return.
func next(registers []int, e api.End) int {
	if e.Kind == api.Branch && registers[e.A] == 0 {
		return e.Else
	}
	return e.To
}

// code runs a block's instructions.
func (m *machine) code(registers []int, l []api.Instr) {
	for k := range l {
		m.step()
		v := m.do(registers, &l[k])
		if to := Writes(l[k]); to >= 0 {
			registers[to] = v
		}
	}
}

// do runs an instruction, and is what it writes to its register, if it writes one.
func (m *machine) do(registers []int, i *api.Instr) int {
	switch i.Op {
	case api.IConst:
		return i.N
	case api.ICopy:
		return registers[i.A]
	case api.IBin:
		return operate(i, registers[i.A], registers[i.B])
	case api.IConv:
		return word.Wrap(i.Type, registers[i.A])
	case api.ILoad:
		return m.elements[m.element(i.N, registers[i.A])]
	case api.IStore:
		m.elements[m.element(i.N, registers[i.A])] = word.Wrap(m.Globals[i.N].Type, registers[i.B])
	case api.IGet:
		return m.scalars[i.N]
	case api.ISet:
		m.scalars[i.N] = registers[i.A]
	case api.ICall:
		return m.call(i.N, valuesOf(registers, i.Args))
	case api.IIn:
		return m.read()
	case api.IOut:
		m.out = append(m.out, registers[i.A])
	}
	return 0
}

// operate is what a binary sign makes of two numbers; its trap ends the run.
func operate(i *api.Instr, a, b int) int {
	v, number := word.Bin(i.Type, i.S, a, b)
	if number != api.NoTrap {
		trap(number)
	}
	return v
}

// element is the element of an array with an index, if there is one.
func (m *machine) element(array, index int) element {
	if index < 0 || index >= m.Globals[array].Size {
		trap(api.TrapIndex)
	}
	return element{array, index}
}

func valuesOf(registers, places []int) []int {
	l := make([]int, len(places))
	for k, at := range places {
		l[k] = registers[at]
	}
	return l
}

// read is the next input.
func (m *machine) read() int {
	if len(m.input) == 0 {
		return 0
	}
	v := m.input[0]
	m.input = m.input[1:]
	return v
}
