package scope

import (
	"slices"
	"testing"

	"mortise/api"
	"mortise/clone"
	"mortise/dom"
	"mortise/ir"
	"mortise/sample"
)

// holdLaws holds P11.2 and P11.3 for a reducible function.
func holdLaws(t *testing.T, c api.Code) {
	t.Helper()
	lists, no := Scope(c)
	if no != api.OK {
		t.Fatalf("%s: error %d", sample.ShowCode(c), no)
	}
	if wrong := notOnce(c, lists); wrong != "" {
		t.Fatalf("%s: %s: %s", sample.ShowCode(c), show(lists), wrong)
	}
	holdEnds(t, c, lists)
	for choices := range 3 {
		holdWay(t, c, lists, choices*37)
	}
}

// notOnce tells how P11.3 does not hold.
func notOnce(c api.Code, lists [][]Item) string {
	codes, references := map[int]int{}, map[int]int{}
	for number, l := range lists {
		if len(l) == 0 {
			return "an empty list"
		}
		for k, i := range l {
			last := k == len(l)-1
			switch i.Op {
			case OCode:
				codes[i.Block]++
			case OBlock, OLoop, OIf:
				references[i.Body]++
				if i.Op == OIf {
					references[i.Other]++
				}
				if i.Body < 0 || i.Body >= number || i.Op == OIf && (i.Other < 0 || i.Other >= number) {
					return "no earlier list"
				}
			}
			if isLast := i.Op != OCode && i.Op != OBlock; isLast != last {
				return "something follows, or nothing"
			}
			if unusedField(i) {
				return "a field that is not mentioned"
			}
		}
	}
	reachable := dom.Order(c)
	for at := range c.Blocks {
		want := 0
		if slices.Contains(reachable, at) {
			want = 1
		}
		if codes[at] != want {
			return "a block is not there once"
		}
	}
	for number := range lists[:len(lists)-1] {
		if references[number] != 1 {
			return "a list is not there once"
		}
	}
	if len(codes) != len(reachable) || len(references) != len(lists)-1 {
		return "there is more"
	}
	return ""
}

// unusedField tells whether a field that an item does not use is not 0.
func unusedField(i Item) bool {
	used := map[int]Item{
		OBlock:  {Body: i.Body},
		OLoop:   {Body: i.Body},
		OCode:   {Block: i.Block},
		OBr:     {N: i.N},
		OIf:     {A: i.A, Body: i.Body, Other: i.Other},
		OReturn: {A: i.A},
	}[i.Op]
	used.Op = i.Op
	return used != i
}

// places tells where the items are that refer to lists: a list, and a place in it.
type places map[int][2]int

func placesOf(lists [][]Item) places {
	p := places{}
	for number, l := range lists {
		for k, i := range l {
			switch i.Op {
			case OBlock, OLoop:
				p[i.Body] = [2]int{number, k}
			case OIf:
				p[i.Body], p[i.Other] = [2]int{number, k}, [2]int{number, k}
			}
		}
	}
	return p
}

// nextEnd is what is done from a place on, up to the next block, as an end of a block.
func nextEnd(lists [][]Item, p places, number, k int) api.End {
	for range 4 * api.MaxBlocks { // a loop without blocks is none
		if k == len(lists[number]) {
			return api.End{}
		}
		i := lists[number][k]
		switch i.Op {
		case OCode:
			return api.End{Kind: api.Jump, To: i.Block}
		case OReturn:
			return api.End{Kind: api.Return, A: i.A}
		case OIf:
			to, other := nextEnd(lists, p, i.Body, 0), nextEnd(lists, p, i.Other, 0)
			if to.Kind != api.Jump || other.Kind != api.Jump {
				return api.End{}
			}
			return api.End{Kind: api.Branch, A: i.A, To: to.To, Else: other.To}
		case OBlock, OLoop:
			number, k = i.Body, 0
		case OBr:
			for range i.N {
				number = p[number][0]
			}
			by := p[number]
			switch lists[by[0]][by[1]].Op {
			case OBlock:
				number, k = by[0], by[1]+1
			case OLoop:
				k = 0
			default:
				return api.End{}
			}
		}
	}
	return api.End{}
}

// holdEnds holds P11.2 for each block by itself: what is done after it is what its end says.
func holdEnds(t *testing.T, c api.Code, lists [][]Item) {
	t.Helper()
	p := placesOf(lists)
	if got := nextEnd(lists, p, len(lists)-1, 0); got != (api.End{Kind: api.Jump}) {
		t.Fatalf("%s: %s: begins with %v", sample.ShowCode(c), show(lists), got)
	}
	for number, l := range lists {
		for k, i := range l {
			if i.Op != OCode {
				continue
			}
			want := c.Blocks[i.Block].End
			switch {
			case want.Kind == api.Return:
				want = api.End{Kind: api.Return, A: want.A}
			case want.Kind == api.Jump || want.To == want.Else:
				want = api.End{Kind: api.Jump, To: want.To}
			}
			if got := nextEnd(lists, p, number, k+1); got != want {
				t.Fatalf("%s: %s: block %d ends with %v, want %v", sample.ShowCode(c), show(lists), i.Block, got, want)
			}
		}
	}
}

// execution executes lists, in the words of P11.2; what a register is, is chosen.
type execution struct {
	lists  [][]Item
	choose func() bool
	blocks []int // the OCodes that occurred
	steps  int
}

// How a list is left, if not by a branch to the one that is so many lists around.
const (
	isReturn = -1
	isOver   = -2 // there are no more steps
	isAtEnd  = -3 // of the list
)

// list executes a list, and tells how it is left.
func (x *execution) list(number int) int {
	for _, i := range x.lists[number] {
		left := x.item(i)
		if left != isAtEnd {
			return left
		}
	}
	return isAtEnd
}

func (x *execution) item(i Item) int {
	switch i.Op {
	case OCode:
		if x.steps == 0 {
			return isOver
		}
		x.steps--
		x.blocks = append(x.blocks, i.Block)
		return isAtEnd
	case OBr:
		return i.N
	case OReturn:
		x.blocks = append(x.blocks, -1-i.A)
		return isReturn
	case OBlock:
		left := x.list(i.Body)
		if left == 0 {
			return isAtEnd
		}
		return outer(left)
	case OLoop:
		left := 0
		for left == 0 {
			left = x.list(i.Body)
		}
		return outer(left)
	case OIf:
		if x.choose() {
			return outer(x.list(i.Body))
		}
		return outer(x.list(i.Other))
	}
	return isOver
}

// outer is how the list around is left.
func outer(left int) int {
	if left > 0 {
		return left - 1
	}
	return left
}

// chooser makes the same choices for the same number.
func chooser(number int) func() bool {
	return func() bool {
		number = (number*1103515245 + 12345) % (1 << 31)
		return number>>16&1 == 1
	}
}

// holdWay holds P11.2 for one way through a function.
func holdWay(t *testing.T, c api.Code, lists [][]Item, choices int) {
	t.Helper()
	const steps = 40
	x := execution{lists: lists, choose: chooser(choices), steps: steps}
	x.list(len(lists) - 1)
	choose, at := chooser(choices), 0
	var want []int
	for at >= 0 && len(want) < steps {
		want = append(want, at)
		e := c.Blocks[at].End
		switch {
		case e.Kind == api.Return:
			want, at = append(want, -1-e.A), -1
		case e.Kind == api.Jump || e.To == e.Else || choose():
			at = e.To
		default:
			at = e.Else
		}
	}
	if !slices.Equal(x.blocks, want) {
		t.Fatalf("%s: %s: blocks %v, want %v", sample.ShowCode(c), show(lists), x.blocks, want)
	}
}

// P11.2: many ways through each function.
func TestLongWays(t *testing.T) {
	for seed := range 3000 {
		c, isSplit := split(sample.Tangle(seed, 40))
		if !isSplit {
			continue
		}
		lists, _ := Scope(c)
		for choices := range 50 {
			holdWay(t, c, lists, choices)
		}
	}
}

// R3, R4: a function stays as it is, also behind its lists' ends; lists are new memory, no two of which share any; and they are the same again.
func TestArgumentsStayAsTheyAre(t *testing.T) {
	asItIs := func(c api.Code) api.Code {
		Scope(c)
		return clone.Code(c)
	}
	several := 0
	for seed := range 1000 {
		for _, c := range append(sample.Module(seed, seed%5).Funcs, sample.Tangle(seed, 12)) {
			if wrong := sample.Apart(asItIs, c); wrong != "" {
				t.Fatalf("seed %d: %s", seed, wrong)
			}
			first, _ := Scope(c)
			second, _ := Scope(c)
			before := show(first)
			if len(first) > 1 {
				several++
			}
			seen := map[*Item]int{}
			for number, l := range first {
				for k := range l[:cap(l)] {
					i := &l[:cap(l)][k]
					seen[i]++
					if seen[i] > 1 {
						t.Fatalf("seed %d: list %d shares memory", seed, number)
					}
					*i = Item{Op: 77}
				}
			}
			clear(first[:cap(first)])
			third, _ := Scope(c)
			if show(second) != before || show(third) != before {
				t.Fatalf("seed %d: %s, %s, want %s", seed, show(second), show(third), before)
			}
		}
	}
	if several < 1000 {
		t.Errorf("only %d functions had several lists", several)
	}
}

// The rules of the language: what ir.Check never accepts gives something or nothing, but without a panic, and not forever.
func TestFunctionsThatAreNone(t *testing.T) {
	for c := range sample.Strange {
		if lists, no := Scope(c); no != api.OK && lists != nil {
			t.Errorf("%s: %s, error %d", sample.ShowCode(c), show(lists), no)
		}
	}
	for _, code := range []string{"i: jump to1", "i: jump to-1", "i: branch to1 or2 | return", "i: branch or-1", "i: return | jump to7", "i: jump to1 | jump to2 | jump to-5"} {
		if lists, no := Scope(sample.Code(code)); no != api.ErrSplit || lists != nil {
			t.Errorf("%s: %s, error %d", code, show(lists), no)
		}
	}
	for _, count := range []int{0, api.MaxBlocks + 1, 1 << 20} {
		if lists, no := Scope(api.Code{Name: "f", Regs: []int{api.Int}, Blocks: make([]api.Block, count)}); no != api.ErrSplit || lists != nil {
			t.Errorf("%d blocks: %s, error %d", count, show(lists), no)
		}
	}
}

func TestSpoiledModules(t *testing.T) {
	valid := 0
	for name, m := range sample.Spoiled(6000) {
		isValid := ir.Check(m) == api.OK
		for _, c := range m.Funcs {
			Scope(c)
			if isValid {
				holdSecond(t, name, c, &found{})
			}
		}
		if isValid {
			valid++
		}
	}
	if valid < 500 {
		t.Errorf("only %d modules were valid", valid)
	}
}

// great is a function of as many blocks as there may be, each of which ends as told; the last one returns.
func great(end func(at, last int) api.End) api.Code {
	c := api.Code{Name: "main", Type: api.Int, Regs: []int{api.Int}, Blocks: make([]api.Block, api.MaxBlocks)}
	last := len(c.Blocks) - 1
	for k := range c.Blocks {
		c.Blocks[k].End = end(k, last)
	}
	c.Blocks[last].End = api.End{Kind: api.Return}
	return c
}

// P11.1 to P11.3: as many blocks as there may be, one after the other, within each other, as loops, and as joins.
func TestMaxBlocks(t *testing.T) {
	for name, x := range []struct {
		end   func(at, last int) api.End
		lists int
	}{
		{func(at, _ int) api.End { return api.End{Kind: api.Jump, To: at + 1} }, 1},
		{func(at, _ int) api.End { return api.End{Kind: api.Branch, To: at + 1, Else: at} }, 3*399 + 1},
		{func(at, _ int) api.End { return api.End{Kind: api.Branch, To: at + 1, Else: max(at-1, 0)} }, 2*399 + 398 + 1},
		{func(at, last int) api.End { return api.End{Kind: api.Branch, To: at + 1, Else: last} }, 2*398 + 1 + 1},
		{func(at, last int) api.End { return api.End{Kind: api.Branch, To: at + 1, Else: min(at+2, last)} }, 2*398 + 397 + 1 + 1},
		{func(at, _ int) api.End { return api.End{Kind: api.Branch, To: at + 1, Else: 0} }, 2*399 + 1 + 1},
	} {
		c := great(x.end)
		if no := ir.Check(api.Module{Funcs: []api.Code{c}}); no != api.OK {
			t.Fatal(name, no)
		}
		holdSecond(t, name, c, &found{})
		if lists, _ := Scope(c); len(lists) != x.lists {
			t.Errorf("%d: %d lists, want %d", name, len(lists), x.lists)
		}
	}
}
