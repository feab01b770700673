package wasm

import (
	"mortise/api"
	"mortise/course"
)

// trapReached is how a run ends that reaches a WTrap.
const trapReached = 5

// machine runs a module, and knows how far it has come.
type machine struct {
	api.WModule
	course.Course
	memory []byte
}

func newMachine(m api.WModule, input []int, steps int) *machine {
	return &machine{WModule: m, Course: course.New(input, steps), memory: make([]byte, m.Memory)}
}

// call is what a call of one of the module's functions returns; 0: nothing.
func (m *machine) call(function int, arguments []int) int {
	m.Open()
	f := &m.Funcs[function]
	c := call{machine: m, function: f, locals: make([]int, len(f.Params)+len(f.Locals))}
	copy(c.locals, arguments)
	c.run()
	m.Close()
	if f.Type == api.Void {
		return 0
	}
	return c.pop()
}

// bytes are so many bytes of the memory, from an address on.
func (m *machine) bytes(address, count int) []byte {
	if address < 0 || address > m.Memory-count {
		course.Trap(api.TrapIndex)
	}
	return m.memory[address : address+count]
}

// load is the number that so many bytes hold.
func (m *machine) load(address, count int) int {
	v := 0
	for k, b := range m.bytes(address, count) {
		v |= int(b) << (8 * k)
	}
	unused := 64 - 8*count
	return v << unused >> unused // the sign is the highest bit of what was loaded
}

// store lets so many bytes hold the lowest bits of a number.
func (m *machine) store(address, count, v int) {
	l := m.bytes(address, count)
	for k := range l {
		l[k] = byte(v >> (8 * k))
	}
}
