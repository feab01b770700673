package opt

import (
	"slices"
	"strconv"
	"testing"

	"mortise/api"
	"mortise/sample"
	"mortise/stock"
	"mortise/word"
)

// A second reading of the chapter, by which package opt is held: what is known is looked for in the instructions ahead, and what is live on all paths from each instruction on.

// written is the register that an instruction writes; -1: none.
func written(i api.Instr) int {
	switch i.Op {
	case api.IStore, api.ISet, api.IOut:
		return -1
	}
	return i.Dst
}

// registers are the places of what an instruction reads.
func registers(i *api.Instr) []*int {
	switch i.Op {
	case api.IConst, api.IGet, api.IIn:
		return nil
	case api.IBin, api.IStore:
		return []*int{&i.A, &i.B}
	case api.ICall:
		i.Args = slices.Clone(i.Args)
		var l []*int
		for k := range i.Args {
			l = append(l, &i.Args[k])
		}
		return l
	}
	return []*int{&i.A}
}

// lastWrite is where a register was written last, behind a place; -1: nowhere.
func lastWrite(code []api.Instr, r, behind int) int {
	for k := len(code) - 1; k > behind; k-- {
		if written(code[k]) == r {
			return k
		}
	}
	return -1
}

// equalTo is the register to which one is known to be equal behind instructions, or itself.
func equalTo(code []api.Instr, r int) int {
	k := lastWrite(code, r, -1)
	if k < 0 || code[k].Op != api.ICopy || code[k].A == r || lastWrite(code, code[k].A, k) >= 0 {
		return r
	}
	return code[k].A
}

// isNumber tells whether a register is known to be a number behind instructions, and which.
func isNumber(code []api.Instr, r int) (bool, int) {
	k := lastWrite(code, r, -1)
	if k < 0 || code[k].Op != api.IConst {
		return false, 0
	}
	return true, code[k].N
}

func secondFold(c api.Code) api.Code {
	blocks := slices.Clone(c.Blocks)
	for at, b := range blocks {
		var code []api.Instr
		for _, i := range b.Code {
			code = append(code, secondInstruction(code, i))
		}
		blocks[at] = api.Block{Code: code, End: secondEnd(code, b.End)}
	}
	c.Blocks = blocks
	return c
}

// secondInstruction is what becomes of an instruction behind those that were replaced already.
func secondInstruction(code []api.Instr, i api.Instr) api.Instr {
	for _, r := range registers(&i) {
		*r = equalTo(code, *r)
	}
	n, trap := 0, api.NoTrap
	known, a := isNumber(code, i.A)
	switch i.Op {
	case api.ICopy:
		n = a
	case api.IConv:
		n = word.Wrap(i.Type, a)
	case api.IBin:
		alsoKnown, b := isNumber(code, i.B)
		known = known && alsoKnown
		n, trap = word.Bin(i.Type, i.S, a, b)
	default:
		known = false
	}
	if known && trap == api.NoTrap {
		return api.Instr{Op: api.IConst, Dst: i.Dst, N: n}
	}
	return i
}

func secondEnd(code []api.Instr, e api.End) api.End {
	if e.Kind == api.Jump || e.A < 0 {
		return e
	}
	e.A = equalTo(code, e.A)
	if e.Kind == api.Return {
		return e
	}
	if known, n := isNumber(code, e.A); known && n == 0 {
		return api.End{Kind: api.Jump, To: e.Else}
	} else if known || e.To == e.Else {
		return api.End{Kind: api.Jump, To: e.To}
	}
	return e
}

// isLive tells whether there is a path from an instruction of a block on, on which a register is read before it is written.
func isLive(c api.Code, block, from, r int) bool {
	seen := map[int]int{}
	type point struct{ block, from int }
	for paths := []point{{block, from}}; len(paths) > 0; paths = paths[1:] {
		p := paths[0]
		isRead, isOver := lookAhead(c.Blocks[p.block], p.from, r)
		if isRead {
			return true
		}
		e := c.Blocks[p.block].End
		tos := [][]int{api.Jump: {e.To}, api.Branch: {e.To, e.Else}, api.Return: nil}[e.Kind]
		for _, to := range tos {
			if !isOver && seen[to] == 0 {
				seen[to] = 1
				paths = append(paths, point{to, 0})
			}
		}
	}
	return false
}

// lookAhead tells whether a register is read in the rest of a block, and whether it is written before that.
func lookAhead(b api.Block, from, r int) (isRead, isOver bool) {
	for _, i := range b.Code[from:] {
		if slices.ContainsFunc(registers(&i), func(p *int) bool { return *p == r }) {
			return true, false
		}
		if written(i) == r {
			return false, true
		}
	}
	return b.End.Kind != api.Jump && b.End.A == r, false
}

func secondDead(c api.Code) api.Code {
	blocks := slices.Clone(c.Blocks)
	for at, b := range c.Blocks {
		var code []api.Instr
		for k, i := range b.Code {
			removes := i.Op == api.IConst || i.Op == api.ICopy || i.Op == api.IConv || i.Op == api.IGet || i.Op == api.IBin && i.S != "/" && i.S != "%"
			if (removes || i.Op == api.ICall) && (i.Dst < 0 || !isLive(c, at, k+1, i.Dst)) {
				if removes {
					continue
				}
				i.Dst = -1
			}
			code = append(code, i)
		}
		blocks[at].Code = code
	}
	c.Blocks = blocks
	return c
}

// P8.1, P8.2: functions become the same by the second reading; once, and again.
func TestSecondReading(t *testing.T) {
	found := map[string]int{}
	for name, m := range stock.Modules {
		for _, c := range m.Funcs {
			for range 3 {
				c = holdSecond(t, name, c, found)
			}
		}
	}
	for _, what := range []string{
		"read of op 2", "read of op 3", "read of op 4", "read of op 5", "read of op 6", "read of op 8", "read of op 9", "read of op 11", "read of end 2", "read of end 3",
		"folded op 2", "folded op 3", "folded op 4", "jump", "removed op 1", "removed op 2", "removed op 3", "removed op 4", "removed op 7", "cut op 9",
	} {
		if found[what] < 5 {
			t.Errorf("%s was found %d times", what, found[what])
		}
	}
}

// holdSecond holds Fold and Dead of a function, and is both of it; found counts what was done.
func holdSecond(t *testing.T, name int, c api.Code, found map[string]int) api.Code {
	t.Helper()
	folded := Fold(c)
	if want := secondFold(c); !sample.SameCode(folded, want) {
		t.Fatalf("seed %d: Fold of\n%s\n%s, want\n%s", name, sample.ShowCode(c), sample.ShowCode(folded), sample.ShowCode(want))
	}
	countFolded(c, folded, found)
	for _, x := range []api.Code{c, folded} {
		got, want := Dead(x), secondDead(x)
		if !sample.SameCode(got, want) {
			t.Fatalf("seed %d: Dead of\n%s\n%s, want\n%s", name, sample.ShowCode(x), sample.ShowCode(got), sample.ShowCode(want))
		}
		countDead(x, got, found)
	}
	return Dead(folded)
}

func countFolded(before, after api.Code, found map[string]int) {
	for at, b := range before.Blocks {
		x, y := b.End, after.Blocks[at].End
		switch {
		case x.Kind != y.Kind:
			found["jump"]++
		case x != y:
			found["read of end "+strconv.Itoa(x.Kind)]++
		}
		for k, i := range b.Code {
			switch j := after.Blocks[at].Code[k]; {
			case i.Op != j.Op:
				found["folded"+op(i)]++
			case !sample.SameInstr(i, j):
				found["read of"+op(i)]++
			}
		}
	}
}

func countDead(before, after api.Code, found map[string]int) {
	for at, b := range before.Blocks {
		rest := after.Blocks[at].Code
		for _, i := range b.Code {
			switch {
			case len(rest) == 0 || rest[0].Op != i.Op || rest[0].Op != api.ICall && !sample.SameInstr(rest[0], i):
				found["removed"+op(i)]++
				continue
			case !sample.SameInstr(rest[0], i):
				found["cut"+op(i)]++
			}
			rest = rest[1:]
		}
	}
}

// op is an instruction's Op in a text.
func op(i api.Instr) string { return " op " + strconv.Itoa(i.Op) }
