package check

import (
	"reflect"
	"slices"
	"strings"
	"testing"
	"unsafe"

	"mortise/api"
)

// answers checks that Check answers what the second reading does.
func answers(t *testing.T, text string, p api.Program) (api.Program, api.Diag) {
	t.Helper()
	got, d := Check(p)
	want, wrong := newSecond(p).check()
	if d != wrong || !reflect.DeepEqual(unshared(got), unshared(want)) {
		t.Fatalf("%s\n%+v, want %+v\n%+v, want\n%+v", text, d, wrong, got, want)
	}
	return got, d
}

// P4.1, P4.2, P4.3, P4.4: made programs, right and wrong ones, held against a second reading of the chapter.
func TestMade(t *testing.T) {
	seen := map[api.Errno]int{}
	for _, slips := range []int{0, 0, 300, 100, 30} {
		m := newMaker(int64(slips)+1, slips)
		for i := range 1500 {
			text := m.program(i % 5)
			p := parsed(t, text)
			got, d := answers(t, text, p)
			seen[d.No]++
			if d.No == api.OK {
				refersWell(t, text, got)
				if again, d := Check(got); d != (api.Diag{}) || !reflect.DeepEqual(again, got) {
					t.Fatalf("%s\nchecked again: %+v\n%+v, and before\n%+v", text, d, again, got)
				}
			}
		}
	}
	for _, no := range []api.Errno{api.OK, api.ErrTwice, api.ErrName, api.ErrType, api.ErrArgs, api.ErrLabel, api.ErrMany, api.ErrMain} {
		if seen[no] < 20 {
			t.Fatalf("too few of an error: %v", seen)
		}
	}
	if seen[api.OK] < 3000 {
		t.Fatalf("too few right programs: %v", seen)
	}
}

// P4.1, P4.2: right programs in which a few names, signs and types were exchanged.
func TestSpoiled(t *testing.T) {
	seen := map[api.Errno]int{}
	m := newMaker(9, 0)
	for i := range 6000 {
		text := m.program(i % 4)
		_, d := answers(t, text, m.spoiled(parsed(t, text)))
		seen[d.No]++
	}
	for _, no := range []api.Errno{api.OK, api.ErrTwice, api.ErrName, api.ErrType, api.ErrArgs, api.ErrLabel, api.ErrMany, api.ErrMain} {
		if seen[no] < 10 {
			t.Fatalf("too few of an error: %v", seen)
		}
	}
}

// refersWell checks P4.4: all Refs exist, and what they refer to has the Type that the node states.
func refersWell(t *testing.T, text string, p api.Program) {
	t.Helper()
	owner := newSecond(p).owner
	for i, n := range p.Nodes {
		vars, ok := p.Funcs[owner[i]].Vars, true
		switch n.Op {
		case api.EName, api.SAssign, api.SLocal:
			kind := 0
			if n.Ref >= 0 {
				ok = n.Ref < len(vars)
				kind = vars[min(n.Ref, len(vars)-1)]
			} else {
				g := p.Globals[-1-n.Ref]
				ok, kind = g.Size == 0 && g.Name == n.S && n.Op != api.SLocal, g.Type
			}
			ok = ok && (n.Op != api.EName || n.Type == kind) && (n.Op != api.SLocal || n.To == kind)
		case api.EIndex, api.SStore:
			g := p.Globals[n.Ref]
			ok = g.Size > 0 && g.Name == n.S && (n.Op == api.SStore || (n.Type == api.Long) == (g.Type == api.Long) && n.Type != api.Char)
		case api.ECall:
			f := p.Funcs[n.Ref]
			ok = f.Name == n.S && f.Type == n.Type && len(f.Params) == len(n.Kids)
		default:
			ok = n.Ref == 0
		}
		if !ok || n.Op >= api.SBlock && n.Type != 0 {
			t.Fatalf("%s\nnode %d: %+v", text, i, n)
		}
	}
}

// dirty is a program with other Refs, Vars and Types than it had, but for its numbers' Types.
func (m *maker) dirty(p api.Program) api.Program {
	p = unshared(p)
	for i := range p.Nodes {
		n := &p.Nodes[i]
		n.Ref = m.Intn(9) - 4
		if n.Op != api.ENumber {
			n.Type = m.Intn(6) - 1
		}
	}
	for i := range p.Funcs {
		p.Funcs[i].Vars = make([]int, m.Intn(70))
	}
	return p
}

// P4.1: whatever the Refs, Vars and Types are, the answer is the same; P4.3: nothing else is changed.
func TestDirty(t *testing.T) {
	for _, slips := range []int{0, 100} {
		m := newMaker(7, slips)
		for i := range 1000 {
			text := m.program(i % 5)
			p := parsed(t, text)
			want, wrong := Check(p)
			got, d := Check(m.dirty(p))
			if d != wrong || !reflect.DeepEqual(unshared(got), unshared(want)) {
				t.Fatalf("%s\n%+v, want %+v\n%+v, want\n%+v", text, d, wrong, got, want)
			}
			if d.No != api.OK {
				continue
			}
			if plain := unchecked(got); !reflect.DeepEqual(unshared(plain), unshared(p)) {
				t.Fatalf("%s\nchecked, without Types, Refs and Vars:\n%+v, want\n%+v", text, plain, p)
			}
		}
	}
}

// R3: the program stays as it is, with what lies behind its lists; the answer shares no memory with it, and no two of its lists do.
func TestMemory(t *testing.T) {
	m := newMaker(8, 0)
	for range 300 {
		text := m.program(4)
		p := m.dirty(parsed(t, text))
		p.Globals, p.Funcs, p.Nodes = roomy(p.Globals), roomy(p.Funcs), roomy(p.Nodes)
		for i := range p.Nodes {
			p.Nodes[i].Kids = roomy(p.Nodes[i].Kids)
			p.Nodes[i].S = string([]byte(p.Nodes[i].S)) // texts of their own, by whose memory the answer's are told
		}
		for i := range p.Funcs {
			p.Funcs[i].Params, p.Funcs[i].Vars = roomy(p.Funcs[i].Params), roomy(p.Funcs[i].Vars)
		}
		before := whole(p)
		got, d := Check(p)
		if !reflect.DeepEqual(whole(p), before) {
			t.Fatalf("%s\nthe program was changed", text)
		}
		if d.No != api.OK {
			t.Fatalf("%s\n%+v", text, d)
		}
		want := unshared(got)
		checkTexts(t, got, p)
		spoilMemory(p)
		if !reflect.DeepEqual(unshared(got), want) {
			t.Fatalf("%s\nthe answer shares memory with the program", text)
		}
		for i := range got.Nodes {
			fillBehind(got.Nodes[i].Kids, -7)
		}
		for i := range got.Funcs {
			fillBehind(got.Funcs[i].Vars, -7)
			fillBehind(got.Funcs[i].Params, api.Param{Name: "behind"})
		}
		if !reflect.DeepEqual(unshared(got), want) {
			t.Fatalf("%s\nlists of the answer share memory", text)
		}
	}
}

// roomy is a list with room behind it.
func roomy[T any](l []T) []T { return append(make([]T, 0, len(l)+3), l...) }

func fillBehind[T any](l []T, x T) {
	for i := len(l); i < cap(l); i++ {
		l[:cap(l)][i] = x
	}
}

// whole is a copy of a program, with what lies behind its lists.
func whole(p api.Program) []any {
	l := []any{slices.Clone(p.Globals[:cap(p.Globals)]), slices.Clone(p.Funcs[:cap(p.Funcs)]), slices.Clone(p.Nodes[:cap(p.Nodes)])}
	for _, n := range p.Nodes {
		l = append(l, slices.Clone(n.Kids[:cap(n.Kids)]))
	}
	for _, f := range p.Funcs {
		l = append(l, slices.Clone(f.Params[:cap(f.Params)]), slices.Clone(f.Vars[:cap(f.Vars)]))
	}
	return l
}

// spoilMemory overwrites all of a program's lists, and what lies behind them.
func spoilMemory(p api.Program) {
	for _, n := range p.Nodes {
		clear(n.Kids[:cap(n.Kids)])
	}
	for _, f := range p.Funcs {
		clear(f.Params[:cap(f.Params)])
		clear(f.Vars[:cap(f.Vars)])
	}
	clear(p.Globals[:cap(p.Globals)])
	clear(p.Funcs[:cap(p.Funcs)])
	clear(p.Nodes[:cap(p.Nodes)])
}

// checkTexts checks that no text of an answer lies in the memory of one of the program's.
func checkTexts(t *testing.T, got, p api.Program) {
	t.Helper()
	of := map[*byte]int{}
	for _, s := range texts(p) {
		of[unsafe.StringData(s)]++
	}
	for _, s := range texts(got) {
		if of[unsafe.StringData(s)] > 0 {
			t.Fatalf("the text %q is the program's", s)
		}
	}
}

// texts are all texts of a program that have a byte.
func texts(p api.Program) []string {
	var l []string
	for _, g := range p.Globals {
		l = append(l, g.Name)
	}
	for _, f := range p.Funcs {
		l = append(l, f.Name)
		for _, a := range f.Params {
			l = append(l, a.Name)
		}
	}
	for _, n := range p.Nodes {
		l = append(l, n.S)
	}
	return slices.DeleteFunc(l, func(s string) bool { return s == "" })
}

// moved is a program whose nodes stand in another order, in which kids still come ahead of their parents; and the new place of each.
func (m *maker) moved(p api.Program) (api.Program, []int) {
	out := unshared(p)
	place := make([]int, len(p.Nodes))
	var order []int
	var visit func(i int)
	visit = func(i int) { // kids in any order
		for _, k := range m.Perm(len(p.Nodes[i].Kids)) {
			visit(p.Nodes[i].Kids[k])
		}
		place[i] = len(order)
		order = append(order, i)
	}
	for _, f := range m.Perm(len(p.Funcs)) {
		visit(p.Funcs[f].Body)
	}
	for i, old := range order {
		n := unshared(api.Program{Nodes: p.Nodes[old : old+1]}).Nodes[0]
		for j := range n.Kids {
			n.Kids[j] = place[n.Kids[j]]
		}
		out.Nodes[i] = n
	}
	for i := range out.Funcs {
		out.Funcs[i].Body = place[out.Funcs[i].Body]
	}
	return out, place
}

// P4.1: visits go by the kids' order; other layers make programs whose nodes stand in another one, with more of them.
func TestMoved(t *testing.T) {
	m := newMaker(6, 0)
	for i := range 1000 {
		text := m.program(i % 6)
		p := parsed(t, text)
		want, d := Check(p)
		if d.No != api.OK {
			t.Fatalf("%s\n%+v", text, d)
		}
		other, place := m.moved(p)
		got, d := Check(other)
		if d.No != api.OK {
			t.Fatalf("%s\nmoved: %+v", text, d)
		}
		for j, n := range want.Nodes {
			if x := got.Nodes[place[j]]; x.Op != n.Op || x.Type != n.Type || x.Ref != n.Ref || x.At != n.At {
				t.Fatalf("%s\nmoved: %+v, want %+v", text, x, n)
			}
		}
	}
	p := parsed(t, "int main() { "+strings.Repeat("main(); ", 1900)+"}")
	n := len(p.Nodes)
	p.Nodes = append(p.Nodes, p.Nodes...)
	for i := n; i < 2*n; i++ {
		p.Nodes[i].Kids = slices.Clone(p.Nodes[i].Kids)
		for j := range p.Nodes[i].Kids {
			p.Nodes[i].Kids[j] += n
		}
	}
	p.Funcs = append(p.Funcs, api.Func{Name: "f", Body: 2*n - 1})
	if got, d := Check(p); d.No != api.OK || len(got.Nodes) != 2*n || got.Nodes[n].Type != api.Int {
		t.Fatalf("%d nodes: %+v", 2*n, d)
	}
}

// P4.1: labels are held against those ahead of them by the nodes' places, not by the kids' order.
func TestLabelPlaces(t *testing.T) {
	p := parsed(t, "int main() { a: out(1); a: out(2); }")
	if _, d := Check(p); d != (api.Diag{No: api.ErrTwice, At: 24}) {
		t.Fatalf("%+v", d)
	}
	body := p.Nodes[len(p.Nodes)-1].Kids
	body[0], body[1] = body[1], body[0]
	if _, d := Check(p); d != (api.Diag{No: api.ErrTwice, At: 24}) {
		t.Fatalf("kids the other way round: %+v", d)
	}
}

// Nodes that no text has: Check ends, and does not panic.
func TestOddPrograms(t *testing.T) {
	chain := func(op, n int) []api.Node {
		l := []api.Node{{Op: api.ENumber, Type: api.Int}}
		for i := range n {
			l = append(l, api.Node{Op: op, Kids: []int{i}, S: "-"})
		}
		return l
	}
	main := func(l []api.Node) api.Program {
		return api.Program{Funcs: []api.Func{{Name: "main", Type: api.Int, Body: len(l) - 1}}, Nodes: l}
	}
	for i, p := range []api.Program{
		main(nil), main([]api.Node{{Op: api.SBlock, Kids: []int{0}}}), main([]api.Node{{Op: api.SBlock, Kids: []int{1}}}), main([]api.Node{{Op: api.SBlock, Kids: []int{-1}}}),
		main([]api.Node{{Op: api.SBlock, Kids: []int{1}}, {Op: api.SBlock, Kids: []int{0}}}), main([]api.Node{{Op: api.EIn}, {Op: api.SBlock, Kids: []int{0, 0}}}),
		{Funcs: []api.Func{{Name: "main", Type: api.Int}, {Name: "f"}}, Nodes: []api.Node{{Op: api.SBlock}}}, {Funcs: []api.Func{{Name: "main", Body: 1 << 62}}}, {Funcs: []api.Func{{Name: "main", Body: -1}}},
		main(chain(api.EUnary, 1<<17)), main(chain(api.SBlock, 1<<17)),
	} {
		if got, d := Check(p); d != (api.Diag{}) || !reflect.DeepEqual(got, api.Program{}) {
			t.Errorf("%d: %+v, %d nodes", i, d, len(got.Nodes))
		}
	}
	for op := -1; op < 25; op++ {
		for _, kids := range [][]int{nil, {0}, {0, 1}, {0, 1, 2}} {
			for _, s := range []string{"", "main", "g", "t", "-", "<<"} {
				l := []api.Node{{Op: api.EIn}, {Op: api.SBlock}, {Op: 99}, {Op: op, S: s, Kids: kids}, {Op: api.SBlock, Kids: []int{3}}}
				p := main(l)
				p.Globals = []api.Global{{Name: "g", Type: 77}, {Name: "t", Type: -3, Size: -1 << 63}}
				Check(p)
			}
		}
	}
	if p, d := Check(main(append(chain(api.EUnary, 60000), api.Node{Op: api.SReturn, Kids: []int{60000}}, api.Node{Op: api.SBlock, Kids: []int{60001}}))); d.No != api.OK || p.Nodes[60000].Type != api.Int {
		t.Errorf("a deep program: %+v", d)
	}
}
