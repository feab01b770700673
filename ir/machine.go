package ir

import (
	"mortise/api"
	"mortise/course"
	"mortise/word"
)

// machine runs a module, and knows how far it has come.
type machine struct {
	api.Module
	course.Course
	scalars  []int           // the globals' values, where they are scalars
	elements map[element]int // those that were stored: an array may be greater than any memory
}

// element is an element of an array.
type element struct{ array, index int }

func newMachine(m api.Module, input []int, steps int) *machine {
	return &machine{Module: m, Course: course.New(input, steps), scalars: make([]int, len(m.Globals)), elements: map[element]int{}}
}

// call is what a call of a function returns.
func (m *machine) call(function int, arguments []int) int {
	m.Open()
	f := &m.Funcs[function]
	registers := make([]int, len(f.Regs))
	copy(registers, arguments)
	for at := 0; ; {
		b := &f.Blocks[at]
		m.code(registers, b.Code)
		m.Step()
		if b.End.Kind == api.Return {
			m.Close()
			return returned(registers, b.End.A)
		}
		at = next(registers, b.End)
	}
}

// returned is what a return returns: nobody asks for it where there is no register.
func returned(registers []int, at int) int {
	if at < 0 {
		return 0
	}
	return registers[at]
}

// next is the block to which an end goes that doesn't return.
func next(registers []int, e api.End) int {
	if e.Kind == api.Branch && registers[e.A] == 0 {
		return e.Else
	}
	return e.To
}

// code runs a block's instructions.
func (m *machine) code(registers []int, l []api.Instr) {
	for k := range l {
		m.Step()
		v := m.do(registers, &l[k])
		if to := Writes(l[k]); to >= 0 {
			registers[to] = v
		}
	}
}

// do runs an instruction, and is what it writes to its register, if it writes one.
func (m *machine) do(registers []int, i *api.Instr) int {
	switch i.Op {
	case api.IConst:
		return i.N
	case api.ICopy:
		return registers[i.A]
	case api.IBin:
		return course.Bin(i.Type, i.S, registers[i.A], registers[i.B])
	case api.IConv:
		return word.Wrap(i.Type, registers[i.A])
	case api.ILoad:
		return m.elements[m.element(i.N, registers[i.A])]
	case api.IStore:
		m.elements[m.element(i.N, registers[i.A])] = word.Wrap(m.Globals[i.N].Type, registers[i.B])
	case api.IGet:
		return m.scalars[i.N]
	case api.ISet:
		m.scalars[i.N] = registers[i.A]
	case api.ICall:
		return m.call(i.N, valuesOf(registers, i.Args))
	case api.IIn:
		return m.Read()
	case api.IOut:
		m.Write(registers[i.A])
	}
	return 0
}

// element is the element of an array with an index, if there is one.
func (m *machine) element(array, index int) element {
	if index < 0 || index >= m.Globals[array].Size {
		course.Trap(api.TrapIndex)
	}
	return element{array, index}
}

func valuesOf(registers, places []int) []int {
	l := make([]int, len(places))
	for k, at := range places {
		l[k] = registers[at]
	}
	return l
}
