package scope

import (
	"slices"
	"testing"

	"mortise/api"
	"mortise/dom"
	"mortise/sample"
	"mortise/stock"
)

// A second reading of the chapter, by which package scope is held: all lists are made as a tree, in which a branch points to a list; then they are numbered, and it is counted how far up that list is.

// part is an item of the tree.
type part struct {
	op, block, a        int
	body, other, target *list
}

// list is a list of the tree, and the one that contains the item that refers to it.
type list struct {
	parts []part
	above *list
}

// reading is the second reading of a function.
type reading struct {
	c           api.Code
	order, doms []int
	loops       map[int]*list // the Body of the OLoop of each header
	blocks      map[int]*list // the Body of the OBlock that each join follows
}

func newReading(c api.Code) reading {
	r := reading{c: c, order: dom.Order(c), doms: dom.Dom(c), loops: map[int]*list{}, blocks: map[int]*list{}}
	for _, at := range r.order {
		r.loops[at], r.blocks[at] = &list{}, &list{}
	}
	return r
}

// leading are the blocks whose ends lead to one: those that come before it in the order, and the others.
func (r reading) leading(to int) (before, others []int) {
	place := slices.Index(r.order, to)
	for k, from := range r.order {
		switch {
		case !slices.Contains(dom.Tos(r.c.Blocks[from].End), to):
		case k < place:
			before = append(before, from)
		default:
			others = append(others, from)
		}
	}
	return before, others
}

func (r reading) isJoin(at int) bool {
	before, _ := r.leading(at)
	return len(before) >= 2
}

func (r reading) isHeader(at int) bool {
	_, others := r.leading(at)
	return len(others) > 0
}

func (r reading) joins(of int) []int {
	var l []int
	for _, at := range r.order {
		if r.doms[at] == of && r.isJoin(at) {
			l = append(l, at)
		}
	}
	return l
}

func (r reading) blockParts(at int) []part {
	inside := r.within(at, r.joins(at))
	if !r.isHeader(at) {
		return inside
	}
	r.loops[at].parts = inside
	return []part{{op: OLoop, body: r.loops[at]}}
}

func (r reading) within(at int, joins []int) []part {
	l := append([]part{{op: OCode, block: at}}, r.endParts(at)...)
	for _, y := range joins {
		r.blocks[y].parts = l
		l = append([]part{{op: OBlock, body: r.blocks[y]}}, r.blockParts(y)...)
	}
	return l
}

func (r reading) endParts(at int) []part {
	e := r.c.Blocks[at].End
	switch e.Kind {
	case api.Return:
		return []part{{op: OReturn, a: e.A}}
	case api.Branch:
		if e.To != e.Else {
			return []part{{op: OIf, a: e.A, body: &list{parts: r.edgeParts(at, e.To)}, other: &list{parts: r.edgeParts(at, e.Else)}}}
		}
	}
	return r.edgeParts(at, e.To)
}

func (r reading) edgeParts(from, to int) []part {
	_, others := r.leading(to)
	if slices.Contains(others, from) {
		return []part{{op: OBr, target: r.loops[to]}}
	}
	if r.isJoin(to) {
		return []part{{op: OBr, target: r.blocks[to]}}
	}
	return r.blockParts(to)
}

// numbered appends what a list refers to, and then the list itself, as items.
func (l *list) numbered(out [][]Item) [][]Item {
	var items []Item
	number := func(inner *list) int {
		if inner == nil {
			return 0
		}
		inner.above = l
		out = inner.numbered(out)
		return len(out) - 1
	}
	for _, p := range l.parts {
		i := Item{Op: p.op, Block: p.block, A: p.a, Body: number(p.body), Other: number(p.other)}
		if p.op == OBr {
			for up := l; up != p.target; up = up.above {
				i.N++
			}
		}
		items = append(items, i)
	}
	return append(out, items)
}

func secondScope(c api.Code) [][]Item {
	r := newReading(c)
	body := list{parts: r.blockParts(0)}
	return body.numbered(nil)
}

// what was found in functions.
type found struct{ several, unreachable, loops, joins, joinsOfOne, loopsThatAreJoins, far int }

// holdSecond holds a function to the second reading, and counts what was found.
func holdSecond(t *testing.T, name int, c api.Code, sum *found) {
	t.Helper()
	got, no := Scope(c)
	if !dom.Reducible(c) {
		sum.several++
		if no != api.ErrSplit || got != nil {
			t.Fatalf("%d: %s: %v, error %d", name, sample.ShowCode(c), got, no)
		}
		return
	}
	if want := secondScope(c); no != api.OK || !sameLists(got, want) {
		t.Fatalf("%d: %s: %s, error %d, want\n%s", name, sample.ShowCode(c), show(got), no, show(want))
	}
	holdLaws(t, c)
	sum.count(c, got)
}

func (sum *found) count(c api.Code, lists [][]Item) {
	r := newReading(c)
	if len(r.order) < len(c.Blocks) {
		sum.unreachable++
	}
	for _, at := range r.order {
		joins := r.joins(at)
		if len(joins) > 1 {
			sum.joinsOfOne++
		}
		sum.joins += len(joins)
		if r.isHeader(at) {
			sum.loops++
			if r.isJoin(at) {
				sum.loopsThatAreJoins++
			}
		}
	}
	for _, l := range lists {
		if l[len(l)-1].N > 3 {
			sum.far++
		}
	}
}

// enough tells whether there was some of everything.
func (sum found) enough(least int) bool {
	return min(sum.several, sum.unreachable, sum.loops, sum.joins, sum.joinsOfOne, sum.loopsThatAreJoins, sum.far) >= least
}

// split is a function after dom.Split, if that does not make too many blocks.
func split(c api.Code) (api.Code, bool) {
	got, no := dom.Split(c, 60)
	return got, no == api.OK
}

// P11.1 to P11.3: functions of made modules and of lowered programs.
func TestSecondReading(t *testing.T) {
	sum := found{}
	for name, m := range stock.Modules {
		for _, c := range m.Funcs {
			holdSecond(t, name, c, &sum)
			if after, isSplit := split(c); isSplit {
				holdSecond(t, name, after, &sum)
			}
		}
	}
	if !sum.enough(20) {
		t.Errorf("too little was found: %+v", sum)
	}
}

// P11.1 to P11.3: the same for functions of blocks that lead anywhere.
func TestSecondReadingOfTangles(t *testing.T) {
	sum := found{}
	for seed := range 50000 {
		c := sample.Tangle(seed, 3+seed%14)
		holdSecond(t, seed, c, &sum)
		if after, isSplit := split(c); isSplit {
			holdSecond(t, seed, after, &sum)
		}
	}
	if !sum.enough(1000) {
		t.Errorf("too little was found: %+v", sum)
	}
}

// P11.1 to P11.3: the same for all functions of up to four blocks.
func TestSecondReadingOfSmall(t *testing.T) {
	for count := 1; count <= 4; count++ {
		sum := found{}
		for c := range sample.Small(count, false) {
			holdSecond(t, count, c, &sum)
		}
		if count == 4 && min(sum.several, sum.unreachable, sum.loops, sum.joins, sum.joinsOfOne, sum.loopsThatAreJoins) < 1000 {
			t.Errorf("too little was found: %+v", sum)
		}
	}
}
