package sample

import "strconv"

func (m *maker) statements(size int) {
	for range 1 + m.below(5) {
		m.write(" ")
		m.statement(size)
	}
}

// block writes a block, with what stands ahead of its statements and behind them.
func (m *maker) block(size int, ahead, behind string) {
	m.scopes = append(m.scopes, "")
	m.write("{", ahead)
	m.statements(size)
	m.write(behind, " }")
	m.scopes = m.scopes[:len(m.scopes)-1]
}

func (m *maker) statement(size int) {
	if size <= 0 {
		m.shortStatement(1)
		return
	}
	switch m.below(12) {
	case 0:
		m.block(size-1, "", "")
	case 1, 2, 3:
		m.branch(size)
	case 4:
		m.count(size)
	case 5:
		m.loop(size)
	case 6, 7:
		if m.placed < len(m.labels) {
			m.label()
			m.statement(size - 1)
			return
		}
		fallthrough
	default:
		m.shortStatement(size)
	}
}

// branch writes an if; what stands ahead of an else ends in a bracket, so that the else is surely its own.
func (m *maker) branch(size int) {
	m.write("if (")
	m.value(size)
	m.write(") ")
	if m.chance(2) {
		m.bare(size - 1)
		return
	}
	m.block(size-1, "", "")
	m.write(" else ")
	m.bare(size - 1)
}

// bare writes a statement that is in no block of its own: a local there is one of the block around, and may be skipped.
func (m *maker) bare(size int) {
	if m.chance(2) {
		m.block(size, "", "")
	} else {
		m.statement(size)
	}
}

// count writes a loop that counts.
func (m *maker) count(size int) {
	if !m.canDeclare() {
		m.out(size)
		return
	}
	m.scopes = append(m.scopes, "")
	name := m.declare()
	m.write("{ ", m.pick("int ", "long "), name, " = 0; while (", name, " < ", strconv.Itoa(m.below(5)), ") ")
	m.block(size-1, "", " "+name+" = "+name+" + 1;")
	m.write(" }")
	m.scopes = m.scopes[:len(m.scopes)-1]
}

// loop writes a loop that ends when there is no fuel left, or, rarely, one that might not end.
func (m *maker) loop(size int) {
	m.write("while (")
	if m.chance(12) {
		m.value(size)
		m.write(") ")
		m.bare(size - 1)
		return
	}
	m.write("fuel > 0 ", m.pick("&&", "&"), " ")
	m.operand(1)
	m.write(") ")
	m.block(size-1, " fuel = fuel - 1;", "")
}

// label writes the function's next label.
func (m *maker) label() {
	m.write(" ", m.labels[m.placed], ": ")
	m.placed++
}

// jump writes a goto: mostly one that there is fuel for.
func (m *maker) jump() {
	l := m.pick(m.labels...)
	if m.chance(12) {
		m.write("goto ", l, ";")
	} else {
		m.write("if (fuel > 0) { fuel = fuel - 1; goto ", l, "; }")
	}
}

func (m *maker) out(size int) {
	m.write("out(")
	m.value(size)
	m.write(");")
}

func (m *maker) shortStatement(size int) {
	switch k := m.below(14); {
	case k < 3 && m.canDeclare():
		m.write(m.pick("int ", "long "))
		value := m.apart(size) // it can't see the variable
		m.write(m.declare(), " = ", value, ";")
	case k < 5:
		m.write(m.scalar(), " = ")
		m.value(size)
		m.write(";")
	case k < 7:
		m.element(size)
		m.write(" = ")
		m.value(size)
		m.write(";")
	case k < 9 && len(m.labels) > 0:
		m.jump()
	case k < 10 && m.chance(3):
		m.leave(size)
	case k < 12:
		m.callOrOut(size)
	default:
		m.out(size)
	}
}

func (m *maker) callOrOut(size int) {
	i := m.callee()
	if i < 0 {
		m.out(size)
		return
	}
	m.call(i, size)
	m.write(";")
}

func (m *maker) leave(size int) {
	if m.kind() == "void" {
		m.write("return;")
		return
	}
	m.write("return ")
	m.value(size)
	m.write(";")
}
