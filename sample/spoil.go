package sample

import "mortise/api"

// SpoilProgram exchanges something of a program, the same for the same seed, sometimes by what is right there, too.
func SpoilProgram(seed int, p *api.Program) {
	d := newDice(seed)
	if len(p.Nodes) == 0 || len(p.Funcs) == 0 {
		return
	}
	n := &p.Nodes[d.below(len(p.Nodes))]
	f := &p.Funcs[d.below(len(p.Funcs))]
	number := d.number(-1<<63, -2, -1, 0, 1, 2, 5, len(p.Nodes)-1, len(p.Nodes), 1<<63-1)
	switch d.below(13) {
	case 0:
		n.Op = d.below(23)
	case 1:
		n.S = "?"
	case 2:
		n.To = number
	case 3:
		n.Kids = n.Kids[:d.below(len(n.Kids)+1)]
	case 4:
		n.Kids = append(n.Kids, number)
	case 5, 6:
		if len(n.Kids) > 0 {
			n.Kids[d.below(len(n.Kids))] = d.below(len(p.Nodes))
		}
	case 7:
		n.Ref = number
	case 8:
		n.Type = number
	case 9:
		f.Body = number
	case 10:
		f.Vars = f.Vars[:d.below(len(f.Vars)+1)]
	case 11:
		f.Params = f.Params[:d.below(len(f.Params)+1)]
	default:
		if len(p.Globals) > 0 {
			p.Globals[d.below(len(p.Globals))].Size = number
		}
	}
}

// Spoiled are so many made modules, named by numbers from 0 on, in each of which some things were exchanged; many of them are still valid.
func Spoiled(count int) func(yield func(name int, m api.Module) bool) {
	return func(yield func(int, api.Module) bool) {
		d := newDice(count)
		for name := range count {
			m := Module(name%2000, name%4)
			for range 1 + d.below(3) {
				SpoilModule(d.below(1<<31), &m)
			}
			if !yield(name, m) {
				return
			}
		}
	}
}

// SpoilModule exchanges something of a module, the same for the same seed, sometimes by what is right there, too.
func SpoilModule(seed int, m *api.Module) {
	d := newDice(seed)
	f := &m.Funcs[d.below(len(m.Funcs))]
	number := d.number(-1<<63, -2, -1, 0, 1, 2, 3, 4, len(f.Regs)-1, len(f.Regs), len(m.Funcs), len(m.Globals), 1<<31, 1<<63-1)
	kind := d.below(5)
	switch d.below(10) {
	case 0:
		g := &m.Globals[d.below(len(m.Globals))]
		*[]*int{&g.Type, &g.Size}[d.below(2)] = number
	case 1:
		*[]*int{&f.Type, &f.Params}[d.below(2)] = kind
	case 2:
		f.Regs[d.below(len(f.Regs))] = kind
	case 3:
		f.Regs = f.Regs[:d.below(len(f.Regs)+1)]
		if d.chance(3) {
			f.Regs = append(f.Regs, make([]int, 4096)...)
		}
	case 4:
		f.Name = d.pick("main", "", "f")
	case 5:
		f.Blocks = f.Blocks[:d.below(len(f.Blocks)+1)]
	case 6:
		spoilEnd(&d, f, number)
	default:
		spoilInstruction(&d, f, number, kind)
	}
	if len(f.Regs) == 0 {
		f.Regs = []int{api.Int}
	}
}

func spoilEnd(d *dice, f *api.Code, number int) {
	if len(f.Blocks) == 0 {
		return
	}
	e := &f.Blocks[d.below(len(f.Blocks))].End
	*[]*int{&e.Kind, &e.A, &e.To, &e.Else}[d.below(4)] = number
}

func spoilInstruction(d *dice, f *api.Code, number, kind int) {
	for _, b := range f.Blocks {
		if len(b.Code) == 0 || d.chance(3) {
			continue
		}
		i := &b.Code[d.below(len(b.Code))]
		switch d.below(6) {
		case 0:
			i.Op = d.below(14) - 1
		case 1:
			i.Type = kind
		case 2:
			i.S = d.pick("", "+", "==", "!", "&&", "/")
		case 3:
			i.Args = append(i.Args[:d.below(len(i.Args)+1)], number)[d.below(2):]
		default:
			*[]*int{&i.Dst, &i.A, &i.B, &i.N}[d.below(4)] = number
		}
		return
	}
}
