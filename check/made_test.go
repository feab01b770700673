package check

import (
	"math/rand"
	"strconv"
	"strings"

	"mortise/api"
)

// thing is something that has a name in a made program.
type thing struct {
	name, sort string
	params     int
	isVoid     bool
}

// maker writes programs by a source of numbers that is the same in each run; about one of so many choices is a slip (none for 0).
type maker struct {
	*rand.Rand
	text   strings.Builder
	slips  int
	scopes [][]thing // the program's things, and the variables of each open block
	locals int       // how many variables the function has
	isVoid bool      // whether the function is
	labels []string  // that the function has
	gotos  []string  // labels that it needs
}

func newMaker(seed int64, slips int) *maker {
	return &maker{Rand: rand.New(rand.NewSource(seed)), slips: slips}
}

func (m *maker) pick(l ...string) string { return l[m.Intn(len(l))] }

func (m *maker) slip() bool { return m.slips > 0 && m.Intn(m.slips) == 0 }

func (m *maker) write(l ...string) {
	for _, s := range l {
		m.text.WriteString(s)
	}
}

func pool() []string { return []string{"a", "b", "c", "d", "e", "f", "g", "h", "main"} }

// program writes a program.
func (m *maker) program(fuel int) string {
	m.text.Reset()
	names := append(pool()[:8:8], "i", "j", "k")
	m.Shuffle(len(names), func(i, j int) { names[i], names[j] = names[j], names[i] })
	var functions []thing
	m.scopes = [][]thing{nil}
	for range m.Intn(7) {
		name := names[0]
		names = names[1:]
		if m.slip() {
			name = m.pick(pool()...)
		}
		if m.Intn(2) == 0 {
			m.global(name)
		} else {
			functions = append(functions, m.signature(name))
		}
	}
	main := thing{name: "main", sort: "function"}
	if m.slip() {
		main = m.signature(m.pick(pool()...))
	}
	functions = append(functions, main)
	m.Shuffle(len(functions), func(i, j int) { functions[i], functions[j] = functions[j], functions[i] })
	m.scopes[0] = append(m.scopes[0], functions...)
	for _, f := range functions {
		m.function(f, fuel)
	}
	return m.text.String()
}

func (m *maker) global(name string) {
	kind := m.pick("int", "long", "char")
	if kind != "char" && m.Intn(2) == 0 {
		m.write(kind, " ", name, ";\n")
		m.scopes[0] = append(m.scopes[0], thing{name: name, sort: "value"})
		return
	}
	size := 1 + m.Intn(20)
	if m.slips > 0 && m.Intn(9) == 0 {
		size = 200 + m.Intn(800)
	}
	m.write(kind, " ", name, "[", strconv.Itoa(size), "];\n")
	m.scopes[0] = append(m.scopes[0], thing{name: name, sort: "array"})
}

func (m *maker) signature(name string) thing {
	f := thing{name: name, sort: "function", params: m.Intn(4), isVoid: m.Intn(3) == 0}
	if m.slip() {
		f.params = 7 + m.Intn(3)
	}
	return f
}

func (m *maker) function(f thing, fuel int) {
	kind := "int"
	if f.isVoid {
		kind = "void"
	} else if f.name != "main" && m.Intn(2) == 0 {
		kind = "long"
	}
	m.locals, m.isVoid, m.labels, m.gotos = 0, f.isVoid, nil, nil
	m.scopes = append(m.scopes[:1:1], nil)
	m.write(kind, " ", f.name, "(")
	for i := range f.params {
		if i > 0 {
			m.write(", ")
		}
		m.write(m.pick("int", "long"), " ", m.newVariable())
	}
	m.write(") {")
	m.statements(fuel)
	for _, l := range m.gotos {
		if !m.hasLabel(l) && !m.slip() {
			m.labels = append(m.labels, l)
			m.write(" ", l, ": out(1);")
		}
	}
	m.write(" }\n")
}

func (m *maker) hasLabel(name string) bool {
	for _, l := range m.labels {
		if l == name {
			return true
		}
	}
	return false
}

// newVariable is the name of a new variable, which the innermost block has from here on.
func (m *maker) newVariable() string {
	block := len(m.scopes) - 1
	name := m.pick(pool()...)
	for !m.slip() {
		taken := false
		for _, x := range m.scopes[block] {
			taken = taken || x.name == name
		}
		if !taken {
			break
		}
		name = m.pick(append(pool(), "x"+strconv.Itoa(m.Intn(90)))...)
	}
	m.scopes[block] = append(m.scopes[block], thing{name: name, sort: "value"})
	m.locals++
	return name
}

// find is something of a sort that can be seen here; nothing if there is none.
func (m *maker) find(sort string) (thing, bool) {
	if m.slip() {
		return thing{name: m.pick(pool()...), params: m.Intn(3)}, true
	}
	var l []thing
	hidden := map[string]int{}
	for i := len(m.scopes) - 1; i >= 0; i-- {
		for _, x := range m.scopes[i] {
			if hidden[x.name] == 0 && x.sort == sort {
				l = append(l, x)
			}
		}
		for _, x := range m.scopes[i] {
			hidden[x.name]++
		}
	}
	if len(l) == 0 {
		return thing{}, false
	}
	return l[m.Intn(len(l))], true
}

func (m *maker) statements(fuel int) {
	for range 1 + m.Intn(5) {
		m.write(" ")
		m.statement(fuel)
	}
}

func (m *maker) block(fuel int) {
	m.scopes = append(m.scopes, nil)
	m.write("{")
	m.statements(fuel - 1)
	m.write(" }")
	m.scopes = m.scopes[:len(m.scopes)-1]
}

func (m *maker) statement(fuel int) {
	if fuel <= 0 {
		m.shortStatement()
		return
	}
	switch m.Intn(9) {
	case 0, 1:
		m.block(fuel)
	case 2:
		m.write("if (")
		m.value(fuel - 1)
		m.write(") ")
		m.block(fuel)
		if m.Intn(2) == 0 {
			m.write(" else ")
			m.statement(fuel - 1)
		}
	case 3:
		m.write(m.pick("while (", "if ("))
		m.value(fuel - 1)
		m.write(") ")
		m.statement(fuel - 1)
	case 4:
		m.label()
		m.statement(fuel - 1)
	case 5:
		if f, ok := m.find("function"); ok {
			m.call(f, fuel)
		} else {
			m.write("out(1)")
		}
		m.write(";")
	default:
		m.valueStatement(fuel)
	}
}

func (m *maker) label() {
	name := m.pick("a", "l", "m", "n", "o", "p")
	if !m.hasLabel(name) || m.slip() {
		m.labels = append(m.labels, name)
		m.write(name, ": ")
	}
}

func (m *maker) shortStatement() {
	switch {
	case m.Intn(3) == 0:
		l := m.pick("a", "l", "m", "n")
		m.gotos = append(m.gotos, l)
		m.write("goto ", l, ";")
	case m.isVoid != m.slip() && m.Intn(2) == 0:
		m.write("return;")
	default:
		m.valueStatement(0)
	}
}

func (m *maker) valueStatement(fuel int) {
	value, isValue := m.find("value")
	array, isArray := m.find("array")
	switch k := m.Intn(7); {
	case k < 3 && m.locals < 64 || m.slip():
		m.write(m.pick("int ", "long "))
		at := m.text.Len()
		m.value(fuel) // it cannot yet see the variable
		e := m.text.String()[at:]
		rest := m.text.String()[:at]
		m.text.Reset()
		m.write(rest, m.newVariable(), " = ", e, ";")
	case k < 4 && isValue:
		m.write(value.name, " = ")
		m.value(fuel)
		m.write(";")
	case k < 5 && isArray:
		m.write(array.name, "[")
		m.value(fuel)
		m.write("] = ")
		m.value(fuel)
		m.write(";")
	case k < 6 && m.isVoid == m.slip():
		m.write("return ")
		m.value(fuel)
		m.write(";")
	default:
		m.write("out(")
		m.value(fuel)
		m.write(");")
	}
}

// value writes an expression that has a value.
func (m *maker) value(fuel int) {
	if fuel <= 0 {
		m.shortValue()
		return
	}
	switch m.Intn(8) {
	case 0, 1:
		m.write("(")
		m.value(fuel - 1)
		m.write(" ", m.pick("||", "&&", "|", "^", "&", "==", "!=", "<", "<=", ">", ">=", "<<", ">>", "+", "-", "*", "/", "%"), " ")
		m.value(fuel - 1)
		m.write(")")
	case 2:
		m.write(m.pick("-", "~", "!", "(char)", "(int)", "(long)"), " ")
		m.value(fuel - 1)
	case 3, 4:
		if f, ok := m.find("function"); ok && (!f.isVoid || m.slip()) {
			m.call(f, fuel)
		} else {
			m.write("in()")
		}
	case 5:
		if a, ok := m.find("array"); ok {
			m.write(a.name, "[")
			m.value(fuel - 1)
			m.write("]")
		} else {
			m.write("3L")
		}
	default:
		m.shortValue()
	}
}

// call writes a call of a function.
func (m *maker) call(f thing, fuel int) {
	if m.slip() {
		f.params = m.Intn(4)
	}
	m.write(f.name, "(")
	for i := range f.params {
		if i > 0 {
			m.write(", ")
		}
		m.value(fuel - 1)
	}
	m.write(")")
}

func (m *maker) shortValue() {
	if x, ok := m.find("value"); ok && m.Intn(2) == 0 {
		m.write(x.name)
		return
	}
	m.write(m.pick("1", "2L", "0", "in()", "7"))
}

// spoiled is a program that parse might have answered, with a few names, signs and types exchanged.
func (m *maker) spoiled(p api.Program) api.Program {
	for range 1 + m.Intn(2) {
		switch k := m.Intn(len(p.Nodes) + len(p.Funcs) + len(p.Globals)); {
		case k < len(p.Nodes):
			m.spoilNode(&p.Nodes[k])
		case k < len(p.Nodes)+len(p.Funcs):
			m.spoilFunction(&p.Funcs[k-len(p.Nodes)])
		default:
			g := &p.Globals[k-len(p.Nodes)-len(p.Funcs)]
			if m.Intn(2) == 0 {
				g.Name = m.pick(pool()...)
			} else if g.Type != api.Char {
				g.Size = m.Intn(1025)
			}
		}
	}
	return p
}

func (m *maker) spoilNode(n *api.Node) {
	switch n.Op {
	case api.ENumber:
		n.Type = api.Int + m.Intn(2)
	case api.EUnary:
		n.S = m.pick("-", "~", "!")
	case api.EBinary:
		n.S = m.pick("||", "&&", "==", "<", "<<", ">>", "+", "*", "/")
	case api.ECast:
		n.To = api.Int + m.Intn(3)
	case api.SLocal:
		n.To = api.Int + m.Intn(2)
		fallthrough
	case api.EName, api.EIndex, api.ECall, api.SAssign, api.SStore:
		n.S = m.pick(pool()...)
	case api.SLabel, api.SGoto:
		n.S = m.pick("a", "l", "m", "n", "o", "p")
	}
}

func (m *maker) spoilFunction(f *api.Func) {
	switch m.Intn(4) {
	case 0:
		f.Name = m.pick(pool()...)
	case 1:
		f.Type = m.Intn(3)
	case 2:
		f.Params = append(f.Params, api.Param{Name: m.pick(pool()...), Type: api.Int})
	case 3:
		if len(f.Params) > 0 {
			f.Params = f.Params[1:]
		}
	}
}
