package opt

import (
	"slices"

	"mortise/api"
	"mortise/ir"
)

// removeDead removes what is not live from a block; live, which is used up, is what is live behind it.
func removeDead(b *api.Block, live set) {
	if endReads(b.End) {
		live.add(b.End.A)
	}
	kept := make([]api.Instr, 0, len(b.Code))
	for _, i := range slices.Backward(b.Code) {
		reads, to := ir.Reads(i), ir.Writes(i)
		isLive := to >= 0 && live.has(to)
		if i.Op == api.ICall && !isLive {
			i.Dst = -1
		}
		if isLive || !isForResult(i) {
			kept = append(kept, i)
		}
		// What is removed counts for what stands ahead of it, too: live is what the whole function says.
		if to >= 0 {
			live.remove(to)
		}
		for _, r := range reads {
			live.add(r)
		}
	}
	slices.Reverse(kept)
	b.Code = kept
}

// isForResult tells whether an instruction does nothing but write its result.
func isForResult(i api.Instr) bool {
	switch i.Op {
	case api.IConst, api.ICopy, api.IConv, api.IGet:
		return true
	case api.IBin:
		return i.S != "/" && i.S != "%" // those may trap
	}
	return false
}
