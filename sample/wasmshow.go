package sample

import (
	"slices"
	"strconv"
	"strings"

	"mortise/api"
)

// wasmOperations are the names of instructions of Wasm; their Op is the place among them.
const wasmOperations = "? const get set bin eqz wrap extend load store call block loop if br br_if return trap drop"

// ShowWasm is a module of Wasm as a text: a line for the module, and one for each function.
func ShowWasm(m api.WModule) string {
	s := "memory" + strconv.Itoa(m.Memory) + " main" + strconv.Itoa(m.Main) + "\n"
	for _, f := range m.Funcs {
		s += f.Name + Field("t", f.Type) + " " + letters(f.Params) + ";" + letters(f.Locals) + ": " + ShowLists(f.Lists) + "\n"
	}
	return s
}

// letters are the letters of some types.
func letters(types []int) string {
	s := ""
	for _, t := range types {
		s += pickLetter(t)
	}
	return s
}

// ShowLists is lists of instructions of Wasm as a text, each field that is not 0 with its letter: "const t1 n7, return | block b0"; "-" for one without instructions.
func ShowLists(lists [][]api.W) string {
	var out []string
	for _, l := range lists {
		var instructions []string
		for _, i := range l {
			instructions = append(instructions, ShowW(i))
		}
		if len(l) == 0 {
			instructions = []string{"-"}
		}
		out = append(out, strings.Join(instructions, ", "))
	}
	return strings.Join(out, " | ")
}

// ShowW is an instruction of Wasm as a text.
func ShowW(i api.W) string {
	s := word(wasmOperations, i.Op) + Field("t", i.Type) + Field("n", i.N) + Field("b", i.Body) + Field("o", i.Other)
	if i.S != "" {
		s += " " + i.S
	}
	return s
}

// Lists are the lists that ShowLists shows as this text.
func Lists(text string) [][]api.W {
	var out [][]api.W
	for _, list := range strings.Split(text, " | ") {
		l := []api.W{}
		for _, s := range strings.Split(list, ", ") {
			if s != "-" {
				l = append(l, instructionOfWasm(s))
			}
		}
		out = append(out, l)
	}
	return out
}

func instructionOfWasm(text string) api.W {
	l := strings.Fields(text)
	i := api.W{Op: place(wasmOperations, l[0])}
	for _, s := range l[1:] {
		if !setField(s, "t", &i.Type) && !setField(s, "n", &i.N) && !setField(s, "b", &i.Body) && !setField(s, "o", &i.Other) {
			i.S = s
		}
	}
	return i
}

// SameWasm tells whether two modules of Wasm are the same.
func SameWasm(a, b api.WModule) bool {
	return a.Memory == b.Memory && a.Main == b.Main && slices.EqualFunc(a.Funcs, b.Funcs, sameWFunc)
}

func sameWFunc(x, y api.WFunc) bool {
	return x.Name == y.Name && x.Type == y.Type && slices.Equal(x.Params, y.Params) && slices.Equal(x.Locals, y.Locals) && slices.EqualFunc(x.Lists, y.Lists, slices.Equal[[]api.W])
}
