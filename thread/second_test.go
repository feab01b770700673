package thread

import (
	"testing"

	"mortise/api"
	"mortise/clone"
	"mortise/opt"
	"mortise/sample"
	"mortise/stock"
)

// A second reading of the chapter, by which package thread is held: whatever is asked about blocks is worked out anew each time, and blocks are removed one by one.

// reading is a function's blocks during a pass.
type reading struct {
	blocks []api.Block
	isGone []bool
}

func (r reading) isBare(at int) bool {
	return len(r.blocks[at].Code) == 0 && r.blocks[at].End.Kind == api.Jump
}

// finalTarget goes on for as long as it may without being in a cycle.
func (r reading) finalTarget(at int) int {
	for range r.blocks {
		if r.isBare(at) {
			at = r.blocks[at].End.To
		}
	}
	lowest := at
	for next := at; r.isBare(next); {
		next = r.blocks[next].End.To
		lowest = min(lowest, next)
		if next == at {
			break
		}
	}
	return lowest
}

// tos are the places of the blocks to which an end leads.
func tos(e *api.End) []*int {
	return [][]*int{api.Jump: {&e.To}, api.Branch: {&e.To, &e.Else}, api.Return: nil}[e.Kind]
}

func (r reading) reachable() []bool {
	isReached := make([]bool, len(r.blocks))
	isReached[0] = true
	for range r.blocks {
		for k := range r.blocks {
			for _, to := range tos(&r.blocks[k].End) {
				isReached[*to] = isReached[*to] || isReached[k]
			}
		}
	}
	return isReached
}

func (r reading) edges(to int) int {
	n := 0
	for k, isReached := range r.reachable() {
		for _, p := range tos(&r.blocks[k].End) {
			if isReached && *p == to {
				n++
			}
		}
	}
	return n
}

// what a pass, and all of them together, did.
type deeds struct{ passes, cycles, jumps, unreachable, merged, again int }

func (r reading) pass(d *deeds) []api.Block {
	before := reading{clone.Code(api.Code{Blocks: r.blocks}).Blocks, nil}
	for k := range r.blocks {
		e := &r.blocks[k].End
		for _, to := range tos(e) {
			*to = before.finalTarget(*to)
			if before.isBare(*to) {
				d.cycles++
			}
		}
	}
	for k := range r.blocks {
		if e := &r.blocks[k].End; e.Kind == api.Branch && e.To == e.Else {
			e.Kind, e.A, e.Else = api.Jump, 0, 0
			d.jumps++
		}
	}
	for k, isReached := range r.reachable() {
		if !isReached {
			r.isGone[k] = true
			d.unreachable++
		}
	}
	r.merge(d)
	return r.rest()
}

func (r reading) merge(d *deeds) {
	for at := range r.blocks {
		if r.isGone[at] {
			continue
		}
		b := &r.blocks[at]
		for b.End.Kind == api.Jump && b.End.To != at && b.End.To != 0 && r.edges(b.End.To) == 1 {
			to := b.End.To
			b.Code = append(b.Code, r.blocks[to].Code...)
			b.End = r.blocks[to].End
			r.isGone[to] = true
			d.merged++
		}
	}
}

// rest are the blocks that remain, renumbered.
func (r reading) rest() []api.Block {
	var l []api.Block
	for k, b := range r.blocks {
		if r.isGone[k] {
			continue
		}
		for _, to := range tos(&b.End) {
			ahead := 0
			for _, isGone := range r.isGone[:*to] {
				if !isGone {
					ahead++
				}
			}
			*to = ahead
		}
		l = append(l, b)
	}
	return l
}

func secondThread(c api.Code) api.Code {
	c, _ = secondThreadWith(c)
	return c
}

func secondThreadWith(c api.Code) (api.Code, deeds) {
	d := deeds{}
	for {
		next := clone.Code(c)
		r := reading{next.Blocks, make([]bool, len(c.Blocks))}
		before := d
		next.Blocks = r.pass(&d)
		if sample.SameCode(c, next) {
			return c, d
		}
		if before.passes > 0 && (d.jumps > before.jumps || d.merged > before.merged) {
			d.again++
		}
		d.passes++
		c = next
	}
}

// holdSecond holds a function to the second reading, and counts what was done.
func holdSecond(t *testing.T, name int, c api.Code, sum *deeds) {
	t.Helper()
	want, d := secondThreadWith(c)
	if got := Thread(c); !sample.SameCode(got, want) {
		t.Fatalf("%d: %s became\n%s, want\n%s", name, sample.ShowCode(c), sample.ShowCode(got), sample.ShowCode(want))
	}
	if d.cycles > 0 {
		sum.cycles++
	}
	sum.jumps += d.jumps
	sum.unreachable += d.unreachable
	sum.merged += d.merged
	sum.again += d.again
	sum.passes = max(sum.passes, d.passes)
}

// P9.1: functions of made modules and of lowered programs, as they are and after opt, become the same by the second reading.
func TestSecondReading(t *testing.T) {
	sum := deeds{}
	for name, m := range stock.Modules {
		for _, c := range m.Funcs {
			holdSecond(t, name, c, &sum)
			holdSecond(t, name, opt.Dead(opt.Fold(c)), &sum)
		}
	}
	if sum.jumps < 100 || sum.unreachable < 100 || sum.merged < 100 {
		t.Errorf("too little was done: %+v", sum)
	}
}

// P9.1: the same for functions of blocks that lead anywhere, many of them bare.
func TestSecondReadingOfTangles(t *testing.T) {
	sum := deeds{}
	for seed := range 40000 {
		holdSecond(t, seed, tangle(seed), &sum)
	}
	if sum.passes < 5 || sum.cycles < 1000 || sum.jumps < 1000 || sum.unreachable < 1000 || sum.merged < 1000 || sum.again < 1000 {
		t.Errorf("too little was done: %+v", sum)
	}
}

// tangle is a function of blocks that lead anywhere, mostly of few.
func tangle(seed int) api.Code { return sample.Tangle(seed, 3+seed%10) }

// P9.1, P9.3: all functions of up to three blocks, each with an instruction or without.
func TestAllSmallFunctions(t *testing.T) {
	for count := 1; count <= 3; count++ {
		for c := range sample.Small(count, true) {
			holdSecond(t, count, c, &deeds{})
			holdMinimal(t, c, Thread(c))
		}
	}
}
