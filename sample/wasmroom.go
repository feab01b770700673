package sample

import (
	"slices"

	"mortise/api"
)

// Nested is lists each of which is within the next one, so many levels of them around the innermost one, by instructions with this Op.
func Nested(levels int, innermost []api.W, op int) [][]api.W {
	lists := [][]api.W{innermost}
	for k := range levels {
		i := api.W{Op: op, Body: k}
		if op != api.WIf {
			lists = append(lists, []api.W{i})
			continue
		}
		i.Other = -1
		lists = append(lists, []api.W{{Op: api.WConst, Type: api.Int, N: 1}, i})
	}
	return lists
}

// StrangeWasm are modules of Wasm whose numbers are hardly ever right.
func StrangeWasm(yield func(api.WModule) bool) {
	for i := range strangeInstructions {
		for _, lists := range [][][]api.W{nil, {{i}}, {{i}, {{Op: api.WTrap}, i}}, {{{Op: api.WTrap}, i}, nil, {{Op: api.WBlock}, i}}} {
			f := api.WFunc{Type: api.Int, Locals: []int{api.Int}, Lists: lists}
			if !yield(api.WModule{Funcs: []api.WFunc{f, {Params: []int{i.N}, Type: i.N}}, Memory: 8}) {
				return
			}
			f.Type = i.Type
			if !yield(api.WModule{Funcs: []api.WFunc{f}, Memory: i.Body, Main: i.N}) {
				return
			}
		}
	}
}

// strangeInstructions are instructions whose numbers are hardly ever right.
func strangeInstructions(yield func(api.W) bool) {
	numbers := []int{-1 << 63, -1 << 31, -2, -1, 0, 1, 2, 3, 4, 8, 1 << 31, 1 << 32, 1<<63 - 1}
	for op := -1; op < 21; op++ {
		for _, n := range numbers {
			for _, kind := range numbers {
				for _, at := range numbers {
					if !yield(api.W{Op: op, Type: kind, N: n, Body: at, Other: n, S: "div_s"}) {
						return
					}
				}
			}
		}
	}
}

// WasmStays tells whether a module of Wasm stays as it is when it is read, also behind its lists' ends.
func WasmStays(m api.WModule, read func(api.WModule)) bool {
	m = wasmRoom(m)
	before := wholeWasm(m)
	read(m)
	return SameWasm(wholeWasm(m), before)
}

// wasmRoom is a module whose lists have memory behind their ends, which is not 0.
func wasmRoom(m api.WModule) api.WModule {
	m.Funcs = append(slices.Clone(m.Funcs), api.WFunc{Type: 77})[:len(m.Funcs)]
	for k := range m.Funcs {
		f := &m.Funcs[k]
		f.Params = append(slices.Clone(f.Params), 77, 88)[:len(f.Params)]
		f.Locals = append(slices.Clone(f.Locals), 77, 88)[:len(f.Locals)]
		f.Lists = append(slices.Clone(f.Lists), []api.W{{Op: 77}})[:len(f.Lists)]
		for n, l := range f.Lists {
			f.Lists[n] = append(slices.Clone(l), api.W{Op: 77}, api.W{N: 88})[:len(l)]
		}
	}
	return m
}

// wholeWasm is a module with all that stands behind the ends of its lists.
func wholeWasm(m api.WModule) api.WModule {
	m.Funcs = slices.Clone(m.Funcs[:cap(m.Funcs)])
	for k := range m.Funcs {
		f := &m.Funcs[k]
		f.Params = slices.Clone(f.Params[:cap(f.Params)])
		f.Locals = slices.Clone(f.Locals[:cap(f.Locals)])
		f.Lists = slices.Clone(f.Lists[:cap(f.Lists)])
		for n, l := range f.Lists {
			f.Lists[n] = slices.Clone(l[:cap(l)])
		}
	}
	return m
}

// WasmIsApart tells whether no two lists of some modules of Wasm share memory, what stands behind their ends included.
func WasmIsApart(l ...api.WModule) bool {
	seen := map[*int]int{}
	add := func(p *int) { seen[p]++ }
	for _, m := range l {
		funcs := m.Funcs[:cap(m.Funcs)]
		for k := range funcs {
			add(&funcs[k].Type)
			addLists(&funcs[k], add)
		}
	}
	for _, times := range seen {
		if times > 1 {
			return false
		}
	}
	return true
}

// addLists adds a place of each entry of a function's lists.
func addLists(f *api.WFunc, add func(*int)) {
	for _, types := range [][]int{f.Params, f.Locals} {
		types = types[:cap(types)]
		for k := range types {
			add(&types[k])
		}
	}
	for _, l := range f.Lists[:cap(f.Lists)] {
		l = l[:cap(l)]
		for k := range l {
			add(&l[k].Op)
		}
	}
}
