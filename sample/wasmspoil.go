package sample

import (
	"slices"

	"mortise/api"
)

// SpoiledWasm are so many made modules of Wasm, named by numbers from 0 on, in each of which some things were exchanged; many of them are still valid.
func SpoiledWasm(count int) func(yield func(name int, m api.WModule) bool) {
	return func(yield func(int, api.WModule) bool) {
		d := newDice(count)
		for name := range count {
			m := Wasm(name%2000, name%4)
			for range 1 + d.below(3) {
				SpoilWasm(d.below(1<<31), &m)
			}
			if !yield(name, m) {
				return
			}
		}
	}
}

// SpoilWasm exchanges something of a module of Wasm, the same for the same seed, sometimes by what is right there, too.
func SpoilWasm(seed int, m *api.WModule) {
	d := newDice(seed)
	f := &m.Funcs[d.below(len(m.Funcs))]
	number := d.number(-1<<63, -2, -1, 0, 1, 2, 3, 4, 8, len(f.Lists)-1, len(f.Lists), len(f.Params), len(f.Locals), len(m.Funcs)+3, api.MaxData, 1<<31, 1<<63-1)
	kind := d.below(5)
	switch d.below(16) {
	case 0:
		*[]*int{&m.Memory, &m.Main}[d.below(2)] = number
	case 1:
		f.Type = kind
	case 2:
		types := *[]*[]int{&f.Params, &f.Locals}[d.below(2)]
		if len(types) > 0 {
			types[d.below(len(types))] = kind
		}
	case 3:
		f.Locals = f.Locals[:d.below(len(f.Locals)+1)]
	case 4:
		f.Params = append(f.Params, kind)
	case 5:
		f.Lists = f.Lists[:d.below(len(f.Lists)+1)]
	default:
		spoilList(&d, f, number, kind)
	}
}

// spoilList exchanges something of a list.
func spoilList(d *dice, f *api.WFunc, number, kind int) {
	if len(f.Lists) == 0 {
		return
	}
	l := &f.Lists[d.below(len(f.Lists))]
	if len(*l) == 0 {
		return
	}
	at := d.below(len(*l))
	switch d.below(8) {
	case 0:
		*l = slices.Delete(*l, at, at+1)
	case 1:
		*l = slices.Insert(*l, at, (*l)[d.below(len(*l))])
	case 2:
		other := d.below(len(*l))
		(*l)[at], (*l)[other] = (*l)[other], (*l)[at]
	default:
		spoilW(d, &(*l)[at], number, kind)
	}
}

func spoilW(d *dice, i *api.W, number, kind int) {
	switch d.below(7) {
	case 0:
		i.Op = d.below(21) - 1
	case 1:
		i.Type = kind
	case 2:
		i.S = d.pick("", "add", "eq", "div", "lt_u", "+", "shr_s")
	default:
		*[]*int{&i.N, &i.N, &i.Body, &i.Other}[d.below(4)] = number
	}
}
