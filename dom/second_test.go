package dom

import (
	"slices"
	"testing"

	"mortise/api"
	"mortise/clone"
	"mortise/sample"
	"mortise/stock"
)

// A second reading of the chapter, by which package dom is held: what is seen and finished is handed on from visit to visit, and a block dominates those that are not reached without it.

func secondTos(e api.End) []int {
	l := map[int][]int{api.Jump: {e.To}, api.Branch: {e.To, e.Else}}[e.Kind]
	return slices.Compact(l)
}

// secondVisit is what was seen and finished after the visit of a block.
func secondVisit(c api.Code, at int, seen, finished []int) ([]int, []int) {
	seen = append(seen, at)
	for _, to := range secondTos(c.Blocks[at].End) {
		if !slices.Contains(seen, to) {
			seen, finished = secondVisit(c, to, seen, finished)
		}
	}
	return seen, append(finished, at)
}

func secondOrder(c api.Code) []int {
	_, finished := secondVisit(c, 0, nil, nil)
	slices.Reverse(finished)
	return finished
}

// reached tells to which blocks there are paths from block 0 on which one block is not; -1: any paths.
func reached(c api.Code, without int) []bool {
	isReached := make([]bool, len(c.Blocks))
	isReached[0] = without != 0
	for isMore := true; isMore; {
		isMore = false
		for at, b := range c.Blocks {
			for _, to := range secondTos(b.End) {
				if isReached[at] && !isReached[to] && to != without {
					isReached[to], isMore = true, true
				}
			}
		}
	}
	return isReached
}

// relation tells for two blocks whether the first one dominates the second one, which is reachable.
func relation(c api.Code) [][]bool {
	var dominates [][]bool
	isReachable := reached(c, -1)
	for x := range c.Blocks {
		l := reached(c, x)
		for y := range l {
			l[y] = isReachable[y] && !l[y]
		}
		dominates = append(dominates, l)
	}
	return dominates
}

func secondDom(c api.Code) []int {
	dominates := relation(c)
	var doms []int
	for y := range c.Blocks {
		d := -1
		if y == 0 {
			d = 0
		}
		for x := range c.Blocks {
			if x != y && dominates[x][y] && !isBetween(dominates, x, y) {
				d = x
			}
		}
		doms = append(doms, d)
	}
	return doms
}

// isBetween tells whether another block that dominates y does not dominate x.
func isBetween(dominates [][]bool, x, y int) bool {
	for other := range dominates {
		if other != y && dominates[other][y] && !dominates[other][x] {
			return true
		}
	}
	return false
}

// secondWrong is the first back edge in the order whose target does not dominate its source.
func secondWrong(c api.Code) (from, to int, isThere bool) {
	order, dominates := secondOrder(c), relation(c)
	for _, from := range order {
		for _, to := range secondTos(c.Blocks[from].End) {
			if slices.Index(order, to) <= slices.Index(order, from) && !dominates[to][from] {
				return from, to, true
			}
		}
	}
	return 0, 0, false
}

func secondSplit(c api.Code, most int) (api.Code, api.Errno) {
	c = clone.Code(c)
	for {
		from, to, isThere := secondWrong(c)
		if !isThere {
			return c, api.OK
		}
		count := len(c.Blocks)
		if count >= most || count >= 400 {
			return api.Code{}, api.ErrSplit
		}
		c.Blocks = append(c.Blocks, clone.Block(c.Blocks[to]))
		e := &c.Blocks[from].End
		if e.To == to {
			e.To = count
		}
		if e.Else == to {
			e.Else = count
		}
	}
}

// collapses tells, in another way, whether a function is reducible: by removing edges of blocks to themselves, and putting together each block with the only one that leads to it, nothing but block 0 remains.
func collapses(c api.Code) bool {
	from := map[int]map[int]int{} // which blocks lead to each one
	for at, isReachable := range reached(c, -1) {
		if isReachable {
			from[at] = map[int]int{}
		}
	}
	for at := range from {
		for _, to := range secondTos(c.Blocks[at].End) {
			from[to][at] = 1
		}
	}
	for range c.Blocks {
		for at, l := range from {
			delete(l, at)
			if at == 0 || len(l) != 1 {
				continue
			}
			for _, others := range from {
				if others[at] == 1 {
					delete(others, at)
					for only := range l {
						others[only] = 1
					}
				}
			}
			delete(from, at)
		}
	}
	return len(from) == 1
}

// what was found in functions.
type found struct{ unreachable, loops, several, copies, tooMany int }

// holdSecond holds a function to the second reading, and counts what was found.
func holdSecond(t *testing.T, name int, c api.Code, sum *found) {
	t.Helper()
	wantOrder, wantDoms := secondOrder(c), secondDom(c)
	if order, doms := Order(c), Dom(c); !slices.Equal(order, wantOrder) || !slices.Equal(doms, wantDoms) {
		t.Fatalf("%d: %s: order %v, want %v, dominators %v, want %v", name, sample.ShowCode(c), order, wantOrder, doms, wantDoms)
	}
	_, _, isWrong := secondWrong(c)
	if Reducible(c) == isWrong || collapses(c) == isWrong {
		t.Fatalf("%d: %s: %v, %v, want %v", name, sample.ShowCode(c), Reducible(c), collapses(c), !isWrong)
	}
	if len(wantOrder) < len(c.Blocks) {
		sum.unreachable++
	}
	if !endsLeadDown(c) {
		sum.loops++
	}
	if !isWrong {
		return
	}
	sum.several++
	for more := range 8 {
		want, wantNo := secondSplit(c, len(c.Blocks)+more)
		got, no := Split(c, len(c.Blocks)+more)
		if no != wantNo || !sample.SameCode(got, want) {
			t.Fatalf("%d: %s became, with %d more blocks,\n%s, error %d, want\n%s, error %d", name, sample.ShowCode(c), more, sample.ShowCode(got), no, sample.ShowCode(want), wantNo)
		}
		if no == api.OK {
			sum.copies += len(got.Blocks) - len(c.Blocks)
			return
		}
	}
	sum.tooMany++
}

// P10.1 to P10.4: functions of made modules and of lowered programs.
func TestSecondReading(t *testing.T) {
	sum := found{}
	for name, m := range stock.Modules {
		for _, c := range m.Funcs {
			holdSecond(t, name, c, &sum)
		}
	}
	if sum.unreachable < 100 || sum.loops < 100 || sum.several < 100 || sum.copies < 100 {
		t.Errorf("too little was found: %+v", sum)
	}
}

// P10.1 to P10.4: the same for functions of blocks that lead anywhere.
func TestSecondReadingOfTangles(t *testing.T) {
	sum := found{}
	for seed := range 50000 {
		holdSecond(t, seed, tangle(seed), &sum)
	}
	if sum.unreachable < 1000 || sum.loops < 1000 || sum.several < 1000 || sum.copies < 1000 || sum.tooMany < 100 {
		t.Errorf("too little was found: %+v", sum)
	}
}

// tangle is a function of blocks that lead anywhere, mostly of few.
func tangle(seed int) api.Code { return sample.Tangle(seed, 3+seed%10) }

// P10.1 to P10.4: the same for functions of many blocks.
func TestSecondReadingOfGreatTangles(t *testing.T) {
	sum := found{}
	for seed := range 30 {
		holdSecond(t, seed, sample.Tangle(seed, 120), &sum)
	}
	if sum.several < 10 {
		t.Errorf("too little was found: %+v", sum)
	}
}

// P10.1 to P10.4: all functions of up to four blocks.
func TestAllSmallFunctions(t *testing.T) {
	for count := 1; count <= 4; count++ {
		for c := range sample.Small(count, false) {
			holdSecond(t, count, c, &found{})
		}
	}
}
