package opt

import (
	"mortise/api"
	"mortise/ir"
)

// set is a set of registers, a bit for each.
type set []uint64

// newSet is an empty set for a function's registers.
func newSet(c api.Code) set { return make(set, (len(c.Regs)+63)/64) }

// newSets is an empty set for each of a function's blocks.
func newSets(c api.Code) []set {
	sets := make([]set, len(c.Blocks))
	for k := range sets {
		sets[k] = newSet(c)
	}
	return sets
}

func (s set) has(r int) bool { return s[r/64]>>(r%64)&1 != 0 }

func (s set) add(r int) { s[r/64] |= 1 << (r % 64) }

func (s set) remove(r int) { s[r/64] &^= 1 << (r % 64) }

// addAll adds another set, without what is in a third one, and tells whether anything was new.
func (s set) addAll(other, without set) bool {
	isMore := false
	for k, bits := range other {
		more := bits &^ without[k] &^ s[k]
		s[k] |= more
		isMore = isMore || more != 0
	}
	return isMore
}

// liveBehind is, for each block, what is live when it has ended: what may still be read in the blocks to which it goes.
func liveBehind(c api.Code) []set {
	ahead, written := readAndWritten(c)
	behind, none := newSets(c), newSet(c)
	for changed := true; changed; {
		changed = false
		for k := len(c.Blocks) - 1; k >= 0; k-- { // most ends go on to blocks behind their own
			for _, to := range targets(c.Blocks[k].End) {
				behind[k].addAll(ahead[to], none)
			}
			if ahead[k].addAll(behind[k], written[k]) {
				changed = true
			}
		}
	}
	return behind
}

// readAndWritten are, for each block, the registers that it reads before it writes them, and those that it writes.
func readAndWritten(c api.Code) (read, written []set) {
	read, written = newSets(c), newSets(c)
	for k, b := range c.Blocks {
		take := func(r int) {
			if !written[k].has(r) {
				read[k].add(r)
			}
		}
		for _, i := range b.Code {
			for _, r := range ir.Reads(i) {
				take(r)
			}
			if to := ir.Writes(i); to >= 0 {
				written[k].add(to)
			}
		}
		if endReads(b.End) {
			take(b.End.A)
		}
	}
	return read, written
}

// targets are the blocks to which an end goes.
func targets(e api.End) []int {
	switch e.Kind {
	case api.Jump:
		return []int{e.To}
	case api.Branch:
		return []int{e.To, e.Else}
	}
	return nil
}
