package emit

import (
	"slices"
	"strings"

	"mortise/api"
	"mortise/scope"
)

// emitter translates the functions of a module.
type emitter struct {
	api.Module
	places []place // of the globals
}

// writer writes the lists of a function.
type writer struct {
	*emitter
	code   api.Code
	scopes [][]scope.Item
	open   []api.W   // the list that is written
	ended  [][]api.W // those that have ended
}

// function is a function as one of Wasm.
func (e *emitter) function(c api.Code) (api.WFunc, api.Errno) {
	scopes, wrong := scope.Scope(c)
	switch {
	case wrong != api.OK:
		return api.WFunc{}, wrong
	case isTooDeep(scopes):
		return api.WFunc{}, api.ErrDeep
	}
	w := &writer{emitter: e, code: c, scopes: scopes}
	w.nested(func() {
		w.items(len(scopes) - 1)
		w.add(api.W{Op: api.WTrap})
	})
	return api.WFunc{
		Name:   strings.Clone(c.Name),
		Params: slices.Clone(c.Regs[:c.Params]),
		Locals: slices.Clone(c.Regs[c.Params:]),
		Type:   c.Type,
		Lists:  w.ended,
	}, api.OK
}

// isTooDeep tells whether a list is within as many others as there may be blocks.
func isTooDeep(scopes [][]scope.Item) bool {
	around := make([]int, len(scopes)) // how many lists are around each; those that refer to it come after it
	for at, items := range slices.Backward(scopes) {
		for _, i := range items {
			for _, inner := range listsOf(i) {
				around[inner] = around[at] + 1
			}
		}
	}
	return slices.Max(around) >= api.MaxBlocks
}

// listsOf are the lists to which an item refers.
func listsOf(i scope.Item) []int {
	switch i.Op {
	case scope.OBlock, scope.OLoop:
		return []int{i.Body}
	case scope.OIf:
		return []int{i.Body, i.Other}
	}
	return nil
}

// add appends instructions to the list that is written.
func (w *writer) add(l ...api.W) { w.open = append(w.open, l...) }

// nested writes a list within the one that is written, and is its number.
func (w *writer) nested(contents func()) int {
	around := w.open
	w.open = nil
	contents()
	w.ended = append(w.ended, w.open)
	w.open = around
	return len(w.ended) - 1
}

// list writes what a list of the scope becomes, and is its number.
func (w *writer) list(at int) int {
	return w.nested(func() { w.items(at) })
}

func (w *writer) items(at int) {
	for _, i := range w.scopes[at] {
		w.item(i)
	}
}

func (w *writer) item(i scope.Item) {
	switch i.Op {
	case scope.OCode:
		for _, x := range w.code.Blocks[i.Block].Code {
			w.instruction(x)
		}
	case scope.OBlock:
		w.add(api.W{Op: api.WBlock, Body: w.list(i.Body)})
	case scope.OLoop:
		w.add(api.W{Op: api.WLoop, Body: w.list(i.Body)})
	case scope.OBr:
		w.add(api.W{Op: api.WBr, N: i.N})
	case scope.OIf:
		body, other := w.list(i.Body), w.list(i.Other)
		w.add(get(i.A), api.W{Op: api.WIf, Body: body, Other: other})
	case scope.OReturn:
		if w.code.Type != api.Void {
			w.add(get(i.A))
		}
		w.add(api.W{Op: api.WReturn})
	}
}
