package parse

import (
	"math/rand"
	"reflect"
	"slices"
	"testing"
	"unsafe"

	"mortise/api"
	"mortise/lex"
)

func newMaker(seed int64) maker { return maker{rand.New(rand.NewSource(seed))} }

// sorted are items in the order in which Print tells them.
func sorted(l []item) []item {
	out := slices.Clone(l)
	slices.SortStableFunc(out, func(a, b item) int { return boolInt(a.body != nil) - boolInt(b.body != nil) })
	return out
}

func boolInt(b bool) int {
	if b {
		return 1
	}
	return 0
}

// without is a program without its places.
func without(p api.Program) api.Program {
	p = plainLists(p)
	for i := range p.Globals {
		p.Globals[i].At = 0
	}
	for i := range p.Funcs {
		p.Funcs[i].At = 0
	}
	for i := range p.Nodes {
		p.Nodes[i].At = 0
	}
	return p
}

// P3.1, P3.2: made programs, of which it is known which nodes they have, and how they are printed.
func TestMade(t *testing.T) {
	m := newMaker(3)
	for i := range 3000 {
		items := m.program(1 + i%6)
		loose, tight := draw(m, items, true), draw(m, sorted(items), false)
		if len(loose.program.Nodes) > 4000 {
			continue
		}
		holds(t, loose.text.String(), loose.program)
		holds(t, tight.text.String(), tight.program)
		for _, d := range []*drawn{loose, tight} {
			if got := Print(d.program); got != tight.text.String() {
				t.Fatalf("%q printed:\n%q, want\n%q", d.text.String(), got, tight.text.String())
			}
		}
	}
}

// P3.1: made programs that reach the limits of depth, nodes and sizes, and pass them: the first error counts.
func TestMadeLimits(t *testing.T) {
	m := newMaker(4)
	seen := map[api.Errno]int{}
	for range 600 {
		d := draw(m, m.greatProgram(), true)
		seen[d.wrong.No]++
		if d.wrong.No == api.OK {
			holds(t, d.text.String(), d.program)
		} else {
			fails(t, d.text.String(), d.wrong.No, d.wrong.At)
		}
	}
	for _, no := range []api.Errno{api.OK, api.ErrDeep, api.ErrMany, api.ErrRange} {
		if seen[no] < 30 {
			t.Fatalf("too few of an error: %v", seen)
		}
	}
}

// greatProgram is a program that may be too deep, and may have too many nodes and elements.
func (m maker) greatProgram() []item {
	var l []item
	if m.Intn(3) == 0 { // some thousand nodes
		b := &tree{op: api.SBlock}
		for range 3900 + m.Intn(100) {
			b.kids = append(b.kids, &tree{op: api.SReturn})
		}
		l = append(l, item{kind: api.Int, name: "f", body: b})
	}
	for range 1 + m.Intn(4) {
		switch m.Intn(4) {
		case 0:
			g := m.global()
			g.size += 900 * m.Intn(2) * boolInt(g.size > 0)
			l = append(l, g)
		case 1:
			l = append(l, m.function(5))
		default:
			f := m.function(1)
			f.body.kids = append(f.body.kids, m.deepStatement(28+m.Intn(12)))
			l = append(l, f)
		}
	}
	return l
}

// deepStatement is a statement within that many others.
func (m maker) deepStatement(depth int) *tree {
	if depth <= 0 || m.Intn(30) == 0 {
		return &tree{op: api.SOut, kids: []*tree{m.deepExpression(depth + m.Intn(2))}}
	}
	in := []*tree{m.deepStatement(depth - 1)}
	switch m.Intn(4) {
	case 0:
		return &tree{op: api.SBlock, kids: in}
	case 1:
		return &tree{op: api.SLabel, s: m.name(), kids: in}
	case 2:
		return &tree{op: api.SWhile, kids: append([]*tree{m.expression(1)}, in...)}
	}
	return &tree{op: api.SIf, kids: append([]*tree{m.expression(1), m.shortStatement()}, in...)}
}

func (m maker) deepExpression(depth int) *tree {
	if depth <= 0 {
		return m.expression(1)
	}
	in := []*tree{m.deepExpression(depth - 1)}
	switch m.Intn(5) {
	case 0:
		return &tree{op: api.EUnary, s: m.pick("-", "~", "!"), kids: in}
	case 1:
		return &tree{op: api.ECast, kind: api.Char, kids: in}
	case 2:
		return &tree{op: api.EIndex, s: m.name(), kids: in}
	case 3:
		return &tree{op: api.ECall, s: m.name(), kids: append([]*tree{m.expression(1)}, in...)}
	}
	return &tree{op: api.EBinary, s: "*", kids: append([]*tree{m.shortExpression()}, in...)}
}

// P3.3: what is printed, parsed again, is the same program, but for its places; and is printed as the same text.
func TestRoundTrip(t *testing.T) {
	m := newMaker(5)
	for i := range 3000 {
		d := draw(m, m.program(1+i%7), true)
		l := tokens(t, d.text.String())
		p, diag := Parse(l)
		if diag != (api.Diag{}) {
			continue // too many nodes
		}
		text := Print(p)
		again := parsed(t, text)
		if !reflect.DeepEqual(without(again), without(p)) {
			t.Fatalf("%q, printed %q:\n%+v, want\n%+v", d.text.String(), text, again, p)
		}
		if twice := Print(again); twice != text {
			t.Fatalf("%q, printed %q, and once more %q", d.text.String(), text, twice)
		}
	}
}

// P3.4: kids come ahead of their parents; each node is the kid of one, but for the bodies, which are blocks.
func TestStructure(t *testing.T) {
	m := newMaker(6)
	for i := range 1000 {
		d := draw(m, m.program(1+i%7), true)
		p, _ := Parse(tokens(t, d.text.String()))
		uses := make([]int, len(p.Nodes))
		for j, n := range p.Nodes {
			for _, k := range n.Kids {
				if k < 0 || k >= j {
					t.Fatalf("%q: node %d has the kid %d", d.text.String(), j, k)
				}
				uses[k]++
			}
		}
		for _, f := range p.Funcs {
			if p.Nodes[f.Body].Op != api.SBlock {
				t.Fatalf("%q: a body that is no block", d.text.String())
			}
			uses[f.Body]++
		}
		for j, n := range uses {
			if n != 1 {
				t.Fatalf("%q: node %d stands in %d places", d.text.String(), j, n)
			}
		}
	}
}

// P3.1, P3.5: tokens that are nearly a program, held against a second reading of the grammar; and what stands behind a wrong token changes nothing.
func TestNearly(t *testing.T) {
	m := newMaker(7)
	parts := tokens(t, "int long char void if else while goto return in out x 1 7L ( ) { } [ ] ; , : = == + - * ! ~ & && < << ;")
	parts = parts[:len(parts)-1]
	wrong := 0
	for i := range 4000 {
		d := draw(m, m.program(1+i%4), false)
		if d.text.Len() > 500 {
			continue
		}
		l := m.spoiled(tokens(t, d.text.String()), parts)
		at, ok := viable(l)
		if ok {
			if p, diag := Parse(l); diag != (api.Diag{}) {
				t.Fatalf("%q: %+v, %+v", lex.Print(l), p, diag)
			}
			continue
		}
		wrong++
		failsWith(t, l, api.ErrForm, l[at].At)
		tail := m.spoiled(slices.Clone(parts), parts)
		if at < len(l)-1 {
			failsWith(t, slices.Concat(l[:at+1], tail), api.ErrForm, l[at].At)
			failsWith(t, l[:at+1], api.ErrForm, l[at].At)
		}
	}
	if wrong < 1000 {
		t.Fatalf("%d are wrong: too few", wrong)
	}
}

// spoiled are tokens of which some few were taken away, doubled, exchanged or put in; the last one, the end, stays. Numbers become sizes that an array may have.
func (m maker) spoiled(l, parts []api.Token) []api.Token {
	for range m.Intn(3) {
		i := m.Intn(len(l))
		part := parts[m.Intn(len(parts))]
		switch m.Intn(4) {
		case 0:
			l = slices.Insert(l, i, part)
		case 1:
			if i < len(l)-1 {
				l = slices.Insert(l, i, l[i])
			}
		case 2:
			if i < len(l)-1 {
				l[i] = part
			}
		case 3:
			if i < len(l)-1 {
				l = slices.Delete(l, i, i+1)
			}
		}
	}
	for i := range l {
		l[i].At = 3 * i
		if l[i].Kind == api.TNumber {
			l[i].N = 1 + l[i].N%api.MaxArray
		}
	}
	return l
}

// R3: the tokens stay as they are, with what lies behind them; the program keeps nothing of them, and no two of its lists share memory.
func TestMemory(t *testing.T) {
	m := newMaker(8)
	for range 300 {
		d := draw(m, m.program(4), true)
		l := tokens(t, d.text.String())
		for i := range l { // texts of their own, by whose memory the program's are told
			l[i].S = string(append([]byte{}, l[i].S...))
		}
		l = append(l, word("behind"), sign(")"))[:len(l)]
		before := slices.Clone(l[:len(l)+2])
		p, _ := Parse(l)
		if !reflect.DeepEqual(l[:len(l)+2], before) {
			t.Fatalf("%q: the tokens changed", d.text.String())
		}
		want := d.program
		if !same(p, want) {
			continue // too many nodes
		}
		checkTexts(t, p, l)
		for i := range p.Nodes { // a write behind one list may not be seen in another
			kids := p.Nodes[i].Kids
			for j := len(kids); j < cap(kids); j++ {
				kids[:cap(kids)][j] = -1
			}
		}
		clear(l)
		if !same(p, want) {
			t.Fatalf("%q: the program's lists share memory", d.text.String())
		}
		before2 := plainLists(p)
		text := Print(p)
		if !same(p, before2) || text != Print(p) {
			t.Fatalf("%q: Print changed the program", text)
		}
	}
}

// checkTexts checks that no text of a program lies in the memory of a token's.
func checkTexts(t *testing.T, p api.Program, l []api.Token) {
	t.Helper()
	of := map[*byte]int{}
	for i, k := range l {
		if k.S != "" {
			of[unsafe.StringData(k.S)] = i
		}
	}
	check := func(s string) {
		if i, ok := of[unsafe.StringData(s)]; ok && s != "" {
			t.Fatalf("the text %q is the token %d's", s, i)
		}
	}
	for _, g := range p.Globals {
		check(g.Name)
	}
	for _, f := range p.Funcs {
		check(f.Name)
		for _, a := range f.Params {
			check(a.Name)
		}
	}
	for _, n := range p.Nodes {
		check(n.S)
	}
}
