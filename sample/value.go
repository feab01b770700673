package sample

import "strconv"

// value writes an expression: operands with binary signs between them.
func (m *maker) value(size int) {
	m.operand(size)
	for size > 0 && m.chance(2) {
		m.sign(size)
	}
}

// apart is an expression that isn't yet in the text.
func (m *maker) apart(size int) string {
	ahead := m.text.String()
	m.text.Reset()
	m.value(size)
	value := m.text.String()
	m.text.Reset()
	m.write(ahead)
	return value
}

// sign writes a binary sign, and its right operand: behind one that divides mostly one that isn't 0.
func (m *maker) sign(size int) {
	s := m.pick("||", "&&", "|", "^", "&", "==", "!=", "<", "<=", ">", ">=", "<<", ">>", "+", "-", "*", "/", "%")
	m.write(" ", s, " ")
	if s != "/" && s != "%" || m.chance(6) {
		m.operand(size - 1)
		return
	}
	m.write("(")
	m.operand(size - 1)
	m.write(" | 1)")
}

func (m *maker) operand(size int) {
	if size <= 0 {
		m.shortOperand()
		return
	}
	switch m.below(9) {
	case 0, 1:
		m.write("(")
		m.value(size - 1)
		m.write(")")
	case 2:
		m.write(m.pick("-", "~", "!", "(char)", "(int)", "(long)"), " ")
		m.operand(size - 1)
	case 3:
		m.element(size - 1)
	case 4:
		if i := m.callee(); m.isValue(i) {
			m.call(i, size-1)
			return
		}
		fallthrough
	default:
		m.shortOperand()
	}
}

func (m *maker) shortOperand() {
	switch m.below(8) {
	case 0:
		m.rareOrIn()
	case 1, 2:
		m.write(m.pick("0", "1", "2", "3", "7", "100", "255", "2147483647", "(-2147483647 - 1)", "-1", "1L", "33L", "2147483648L", "9223372036854775807L"))
	default:
		m.write(m.scalar())
	}
}

// rareOrIn writes in(), or, rarely, a quotient that is too great.
func (m *maker) rareOrIn() {
	if m.chance(30) {
		m.write(m.pick("((-2147483647 - 1) / -1)", "((-9223372036854775807L - 1) / -1)"))
	} else {
		m.write("in()")
	}
}

// element writes an array's element, mostly one that there is.
func (m *maker) element(size int) {
	i := m.below(len(m.arrays))
	m.write("a", strconv.Itoa(i), "[")
	if m.chance(15) {
		m.value(size - 1)
	} else {
		m.operand(size - 1)
		m.write(" & ", strconv.Itoa(m.arrays[i]-1))
	}
	m.write("]")
}

// callee is the function that a call is of: mostly one ahead of this one, so that calls end; -1 if there is none.
func (m *maker) callee() int {
	switch {
	case m.chance(15):
		return m.below(len(m.functions) + 1)
	case m.current == 0:
		return -1
	}
	return m.below(m.current)
}

// isValue tells whether a call of a function is a value; one of main is none here: it would begin all anew.
func (m *maker) isValue(number int) bool {
	return number >= 0 && number < len(m.functions) && m.functions[number].kind != "void"
}

// call writes a call.
func (m *maker) call(number, size int) {
	if number == len(m.functions) {
		m.write("main()")
		return
	}
	m.write("f", strconv.Itoa(number), "(")
	for i := range m.functions[number].params {
		m.comma(i)
		m.value(size - 1)
	}
	m.write(")")
}
