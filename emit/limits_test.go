package emit

import (
	"slices"
	"testing"

	"mortise/api"
	"mortise/clone"
	"mortise/sample"
	"mortise/wasm"
)

// global is one with a type and a size.
func global(t, size int) api.Global { return api.Global{Name: "g", Type: t, Size: size} }

// P14.1: where globals stand, and how many bytes they have together.
func TestMemory(t *testing.T) {
	m := alone(mainOf("ill: load d0 a1, load d0 a1 n1, load d2 a1 n2, get d0 n3, get d2 n4, load d2 a1 n5, get d0 n6, load d0 a1 n7, return"))
	m.Globals = []api.Global{global(api.Char, 1), global(api.Int, 1), global(api.Long, 1), global(api.Int, 0), global(api.Long, 0), global(api.Long, 5), global(api.Int, 0), global(api.Char, 1000)}
	w := emitted(t, m)
	if w.Memory != 1+4+8+4+8+40+4+1000 {
		t.Error(w.Memory)
	}
	var offsets []int
	l := w.Funcs[0].Lists[len(w.Funcs[0].Lists)-1]
	for k, i := range l {
		if i.Op == api.WLoad {
			at := k - 1
			if l[at].Op == api.WBin {
				at--
			}
			offsets = append(offsets, l[at].N)
		}
	}
	if want := []int{0, 1, 5, 13, 17, 25, 65, 69}; !slices.Equal(offsets, want) {
		t.Errorf("%v, want %v", offsets, want)
	}
}

// P14.1: globals may have 4096 bytes together; sizes may be any numbers.
func TestMaxData(t *testing.T) {
	for want, rows := range map[int][][]api.Global{
		0:    {nil, {global(api.Int, -1), global(api.Long, -1<<63)}},
		4:    {{global(api.Int, 0)}, {global(api.Long, -5), global(api.Int, 0)}},
		8:    {{global(api.Long, 0)}, {global(api.Long, 1)}, {global(api.Int, -1<<61), global(api.Char, 8)}},
		4095: {{global(api.Char, 4095)}},
		4096: {{global(api.Char, 4096)}, {global(api.Int, 1024)}, {global(api.Long, 512)}, {global(api.Char, 1), global(api.Int, 1023), global(api.Char, 3)}, {global(api.Int, 1022), global(api.Long, 0)}, slices.Repeat([]api.Global{global(api.Int, 0)}, 1024)},
		-1: {
			{global(api.Char, 4097)}, {global(api.Int, 1025)}, {global(api.Long, 513)}, {global(api.Char, 4096), global(api.Char, 1)}, {global(api.Char, 1), global(api.Char, 4096)},
			{global(api.Int, 1023), global(api.Long, 0)}, {global(api.Char, 4093), global(api.Int, 0)}, slices.Repeat([]api.Global{global(api.Long, 0)}, 513),
			{global(api.Long, 1<<61)}, {global(api.Long, 1<<61), global(api.Long, 1<<61)}, {global(api.Int, 1<<62)}, {global(api.Int, 1<<62), global(api.Int, 1<<62)}, {global(api.Char, 1<<63-1)},
			{global(api.Char, 1<<63-1), global(api.Char, 1<<63-1), global(api.Char, 2)}, {global(api.Long, 1<<62+1), global(api.Long, -8)}, {global(api.Char, 5000), global(api.Char, 1), global(api.Int, -1<<40)},
			{global(api.Long, 1<<63-1), global(api.Long, 1<<63-1), global(api.Long, 2)},
		},
	} {
		for _, l := range rows {
			m := alone(mainOf("i: return"))
			m.Globals = l
			if want < 0 {
				refuses(t, api.ErrMany, m)
				continue
			}
			if got := emitted(t, m).Memory; got != want {
				t.Errorf("%v: %d bytes, want %d", l, got, want)
			}
		}
	}
}

// P14.1: a global may stand at the memory's end, and be used there as a whole.
func TestEndOfMemory(t *testing.T) {
	for _, g := range []api.Global{global(api.Char, 6), global(api.Int, 6), global(api.Long, 6)} {
		register := "i"
		if g.Type == api.Long {
			register = "l"
		}
		m := alone(mainOf("il" + register + "l: const d1 n5, const d2 n-2, store a1 b2 n1, const d1 n4, load d2 a1 n1, conv t2 d3 a2, out a3, const d1 n5, load d2 a1 n1, conv t2 d3 a2, out a3, const d1 n6, load d2 a1 n1, return"))
		bytes := int(elementBytes(g.Type))
		m.Globals = []api.Global{global(api.Char, api.MaxData-6*bytes), g}
		w := emitted(t, m)
		if run := wasm.Run(w, nil, 1000); w.Memory != api.MaxData || !sample.SameRun(run, api.Run{Out: []int{0, -2}, Status: api.Trapped, Code: api.TrapIndex}) {
			t.Error(g, w.Memory, run)
		}
	}
}

// deep is a function of loops, each with an if in it and all that follows in that, and then of ifs alone: its innermost block, with these instructions, is within two lists for each loop, and one for each if.
func deep(loops, ifs int, innermost string) api.Code {
	c := named("main", api.Int, 0, "il: "+innermost+"return")
	code := c.Blocks[0].Code
	c.Blocks = nil
	for k := range loops {
		c.Blocks = append(c.Blocks, api.Block{End: api.End{Kind: api.Branch, To: k, Else: k + 1}})
	}
	for k := range ifs {
		at := loops + 2*k
		c.Blocks = append(c.Blocks, api.Block{End: api.End{Kind: api.Branch, To: at + 1, Else: at + 2}}, api.Block{End: api.End{Kind: api.Return}})
	}
	c.Blocks = append(c.Blocks, api.Block{Code: code, End: api.End{Kind: api.Return}})
	return c
}

// mirrored is a function in which each end that branches goes to its two blocks the other way round.
func mirrored(c api.Code) api.Code {
	c = clone.Code(c)
	for k := range c.Blocks {
		if e := &c.Blocks[k].End; e.Kind == api.Branch {
			e.To, e.Else = e.Else, e.To
		}
	}
	return c
}

// joined is a function of ifs within each other, within a block that is left to the last one: its innermost list is within so many.
func joined(levels int) api.Code {
	c := mainOf("il: return")
	c.Blocks = nil
	for k := range levels - 1 {
		c.Blocks = append(c.Blocks, api.Block{End: api.End{Kind: api.Branch, To: k + 1, Else: levels}})
	}
	c.Blocks = append(c.Blocks, api.Block{End: api.End{Kind: api.Jump, To: levels}}, api.Block{End: api.End{Kind: api.Return}})
	return c
}

// P14.1: a list of the scope may be within 399 others; that of a check is none of the scope. P14.4 to P14.6 hold there, too.
func TestDeepNesting(t *testing.T) {
	const load = "load d0 a1 n2, "
	for _, x := range []struct {
		c      api.Code
		isDeep bool
	}{
		{deep(0, 0, load), false}, {deep(1, 0, load), false}, {deep(199, 0, load), false}, {deep(199, 1, load), false},
		{deep(199, 2, load), true}, {deep(200, 0, load), true}, {deep(200, 0, ""), true}, {deep(200, 99, ""), true}, {deep(250, 0, ""), true}, {deep(399, 0, ""), true},
		{deep(150, 99, load), false}, {deep(150, 100, load), true}, {deep(134, 131, load), false}, {deep(0, 199, load), false},
		{joined(2), false}, {joined(398), false}, {joined(399), false},
	} {
		for _, c := range []api.Code{x.c, mirrored(x.c)} {
			m := world("i: return")
			m.Funcs[3] = c
			holdSecond(t, m)
			if x.isDeep {
				refuses(t, api.ErrDeep, m)
				continue
			}
			holdRuns(t, m, emitted(t, m), 3)
		}
	}
}

// P14.1: the first error, function by function.
func TestOrderOfErrors(t *testing.T) {
	good, tooDeep := mainOf("i: return"), deep(200, 0, "")
	tangle := mainOf("i: branch to1 or2 | jump to2 | branch to1 or3 | return")
	late := deep(199, 0, "")
	late.Blocks = append(late.Blocks[:199:199], tangle.Blocks...)
	for k, b := range late.Blocks[199:] {
		b.End.To, b.End.Else = b.End.To+199, b.End.Else+199
		late.Blocks[199+k] = b
	}
	for _, x := range []struct {
		funcs []api.Code
		want  api.Errno
	}{
		{[]api.Code{tangle}, api.ErrSplit}, {[]api.Code{late}, api.ErrSplit}, {[]api.Code{tooDeep}, api.ErrDeep},
		{[]api.Code{good, good, tangle}, api.ErrSplit}, {[]api.Code{good, tooDeep, good}, api.ErrDeep},
		{[]api.Code{tangle, tooDeep}, api.ErrSplit}, {[]api.Code{tooDeep, tangle}, api.ErrDeep}, {[]api.Code{good, tooDeep, tangle}, api.ErrDeep},
	} {
		m := api.Module{Funcs: x.funcs, Globals: []api.Global{global(api.Char, 4096)}}
		refuses(t, x.want, m)
		m.Globals = append(m.Globals, global(api.Char, 1))
		refuses(t, api.ErrMany, m)
	}
}

// P14.1, P14.5: a block of many instructions, a call with many arguments, and many functions.
func TestMuch(t *testing.T) {
	const count = 2000
	f := api.Code{Name: "f", Type: api.Long, Params: count, Regs: slices.Repeat([]int{api.Long}, count), Blocks: []api.Block{{End: api.End{Kind: api.Return, A: count - 1}}}}
	main := mainOf("iil: return")
	call := api.Instr{Op: api.ICall, Dst: 2, Args: slices.Repeat([]int{2}, count)}
	main.Blocks[0].Code = slices.Repeat([]api.Instr{{Op: api.IIn, Dst: 2}, call, {Op: api.IOut, A: 2}}, 20)
	m := api.Module{Funcs: []api.Code{f, main}}
	w := emitted(t, m)
	if len(w.Funcs[1].Lists[0]) != 20*(2+count+2+2)+3 {
		t.Error(len(w.Funcs[1].Lists[0]))
	}
	holdRuns(t, m, w, 10)
	m = api.Module{}
	for range count {
		m.Funcs = append(m.Funcs, named("f", api.Void, 0, "l: call d-1, return a-1"))
	}
	m.Funcs = append(m.Funcs, mainOf("i: call d-1 n1999, return"))
	holdRuns(t, m, emitted(t, m), 10)
}
