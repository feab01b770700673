// Package sample makes programs, modules in IR, and modules of Wasm, by which the tests hold the layers against each other.
package sample

import (
	"strconv"
	"strings"
)

// Program is a program's text, the same for the same seed and size; the size, up to 4, is how deep statements and expressions are nested. check.Check accepts it; most of its runs end, well or by a trap, within some thousand steps.
func Program(seed, size int) string {
	m := &maker{dice: newDice(seed)}
	m.globals()
	for range m.below(4) {
		m.functions = append(m.functions, m.signature())
	}
	for i := range m.functions {
		m.function(i, size)
	}
	m.function(len(m.functions), size)
	return m.text.String()
}

// maker writes a program.
type maker struct {
	dice
	text      strings.Builder
	scalars   int // the global scalars are g0, g1, ..
	arrays    []int
	functions []signature // but for main
	current   int         // the function that is written: main is behind the others
	labels    []string    // its labels
	placed    int         // how many of them stand in the text already
	locals    int         // how many variables it has
	scopes    []string    // the variables of each open block, a letter each
}

// signature is what a call must know of a function.
type signature struct {
	kind   string
	params int
}

func (m *maker) write(l ...string) {
	for _, s := range l {
		m.text.WriteString(s)
	}
}

// globals writes fuel, which loops use up, the scalars, and the arrays a0, a1, ..
func (m *maker) globals() {
	m.write("int fuel;\n")
	for i := range 1 + m.below(3) {
		m.write(m.pick("int", "long"), " g", strconv.Itoa(i), ";\n")
		m.scalars++
	}
	for i := range 1 + m.below(3) {
		size := 1 << m.below(4)
		m.write(m.pick("char", "int", "long"), " a", strconv.Itoa(i), "[", strconv.Itoa(size), "];\n")
		m.arrays = append(m.arrays, size)
	}
}

func (m *maker) signature() signature {
	return signature{m.pick("int", "long", "void"), m.below(4)}
}

// function writes a function.
func (m *maker) function(number, size int) {
	m.current, m.labels, m.placed, m.locals, m.scopes = number, nil, 0, 0, []string{""}
	for i := range m.below(3) {
		m.labels = append(m.labels, "l"+strconv.Itoa(i))
	}
	if number == len(m.functions) {
		m.write("int main() { fuel = ", strconv.Itoa(m.below(30)), ";")
	} else {
		f := m.functions[number]
		m.write(f.kind, " f", strconv.Itoa(number), "(")
		for i := range f.params {
			m.comma(i)
			m.write(m.pick("int ", "long "), m.declare())
		}
		m.write(") {")
	}
	m.statements(size)
	for m.placed < len(m.labels) {
		m.label()
		m.out(1)
	}
	m.write(" }\n")
}

func (m *maker) comma(i int) {
	if i > 0 {
		m.write(", ")
	}
}

// kind is the type of the function that is written.
func (m *maker) kind() string {
	if m.current == len(m.functions) {
		return "int"
	}
	return m.functions[m.current].kind
}

// declare is the name of a new variable of the innermost block.
func (m *maker) declare() string {
	m.locals++
	last := len(m.scopes) - 1
	for {
		name := string(rune('a' + m.below(20)))
		if !strings.Contains(m.scopes[last], name) {
			m.scopes[last] += name
			return name
		}
	}
}

// canDeclare tells whether the function may have another variable, and the block another name.
func (m *maker) canDeclare() bool {
	return m.locals < 60 && len(m.scopes[len(m.scopes)-1]) < 15
}

// scalar is a variable that can be seen, or a global scalar; mostly not fuel, by which the runs end.
func (m *maker) scalar() string {
	seen := strings.Join(m.scopes, "")
	switch {
	case seen != "" && !m.chance(4):
		return string(seen[m.below(len(seen))])
	case m.chance(12):
		return "fuel"
	}
	return "g" + strconv.Itoa(m.below(m.scalars))
}
