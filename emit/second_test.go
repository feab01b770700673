package emit

import (
	"strconv"
	"strings"
	"testing"

	"mortise/api"
	"mortise/sample"
	"mortise/scope"
	"mortise/wat"
)

// A second reading of the chapter, by which package emit is held: its tables as texts, which are filled in and put into each other from the inside; nothing is numbered.

// rows are what instructions become.
func rows() map[int]string {
	return map[int]string{
		api.IConst: "{dst}.const {N} local.set {Dst}",
		api.ICopy:  "local.get {A} local.set {Dst}",
		api.IBin:   "local.get {A} local.get {B} {type}.{sign} local.set {Dst}",
		api.IConv:  "local.get {A} {wrap or extend} {if Char} local.set {Dst}",
		api.ILoad:  "{check} {address} {load} local.set {Dst}",
		api.IStore: "{check} {address} local.get {B} {store}",
		api.IGet:   "i32.const {offset} {load} local.set {Dst}",
		api.ISet:   "i32.const {offset} local.get {A} {store}",
		api.ICall:  "{args} call {callee} {take}",
		api.IIn:    "call 0 local.set {Dst}",
		api.IOut:   "local.get {A} call 1",
	}
}

// The parts of some of them.
const (
	checkText   = "local.get {A} i64.const 0 i64.lt_s local.get {A} i64.const {size} i64.ge_s i32.or if i32.const 3 call 2 end"
	addressText = "local.get {A} i32.wrap_i64 i32.const {bytes} i32.mul i32.const {offset} i32.add"
	charText    = "i32.const 24 i32.shl i32.const 24 i32.shr_s"
)

// signWords are what signs become.
const signWords = "+ add - sub * mul / div_s % rem_s & and | or ^ xor << shl >> shr_s == eq != ne < lt_s <= le_s > gt_s >= ge_s"

func typeWord(t int) string {
	return map[int]string{api.Int: "i32", api.Long: "i64"}[t]
}

// bytesOf is the number of bytes of an element, and of a global.
func bytesOf(g api.Global) (element, whole int) {
	element = map[int]int{api.Char: 1, api.Int: 4, api.Long: 8}[g.Type]
	if g.Size == 0 {
		return element, element
	}
	if g.Size > api.MaxData {
		return element, api.MaxData + 1
	}
	return element, element * max(g.Size, 0)
}

// memoryBefore is how many bytes the first globals have together.
func memoryBefore(l []api.Global) int {
	sum := 0
	for _, g := range l {
		_, whole := bytesOf(g)
		sum = min(sum+whole, api.MaxData+1)
	}
	return sum
}

// fill fills a row in, with what an instruction of a function names.
func fill(m api.Module, c api.Code, i api.Instr) string {
	values := map[string]string{"args": "", "take": ""}
	for name, n := range map[string]int{"N": i.N, "A": i.A, "B": i.B, "Dst": i.Dst} {
		values[name] = strconv.Itoa(n)
	}
	values["type"] = typeWord(i.Type)
	words := strings.Fields(signWords)
	for k := 0; k < len(words); k += 2 {
		if words[k] == i.S {
			values["sign"] = words[k+1]
		}
	}
	switch i.Op {
	case api.IConst:
		values["dst"] = typeWord(c.Regs[i.Dst])
	case api.IConv:
		values["wrap or extend"] = map[[2]int]string{{api.Int, api.Long}: "i64.extend_i32_s", {api.Long, api.Int}: "i32.wrap_i64", {api.Long, api.Char}: "i32.wrap_i64"}[[2]int{c.Regs[i.A], i.Type}]
		values["if Char"] = map[int]string{api.Char: charText}[i.Type]
	case api.ILoad, api.IStore, api.IGet, api.ISet:
		g := m.Globals[i.N]
		element, _ := bytesOf(g)
		values["check"], values["address"] = checkText, addressText
		values["size"], values["bytes"], values["offset"] = strconv.Itoa(g.Size), strconv.Itoa(element), strconv.Itoa(memoryBefore(m.Globals[:i.N]))
		values["load"] = map[int]string{api.Char: "i32.load8_s", api.Int: "i32.load", api.Long: "i64.load"}[g.Type]
		values["store"] = map[int]string{api.Char: "i32.store8", api.Int: "i32.store", api.Long: "i64.store"}[g.Type]
	case api.ICall:
		values["callee"] = strconv.Itoa(i.N + 3)
		for _, a := range i.Args {
			values["args"] += " local.get " + strconv.Itoa(a)
		}
		if i.Dst >= 0 {
			values["take"] = "local.set {Dst}"
		} else if m.Funcs[i.N].Type != api.Void {
			values["take"] = "drop"
		}
	}
	text := rows()[i.Op]
	for range 2 { // a part has parts
		for name, value := range values {
			text = strings.ReplaceAll(text, "{"+name+"}", value)
		}
	}
	return text
}

// listText is what a list of the scope becomes; it is within so many others.
func listText(m api.Module, c api.Code, lists [][]scope.Item, at, around int) (text string, isDeep bool) {
	isDeep = around >= 400
	inner := func(at int) string {
		s, tooDeep := listText(m, c, lists, at, around+1)
		isDeep = isDeep || tooDeep
		return s
	}
	for _, i := range lists[at] {
		switch i.Op {
		case scope.OCode:
			for _, x := range c.Blocks[i.Block].Code {
				text += " " + fill(m, c, x)
			}
		case scope.OBlock:
			text += " block " + inner(i.Body) + " end"
		case scope.OLoop:
			text += " loop " + inner(i.Body) + " end"
		case scope.OBr:
			text += " br " + strconv.Itoa(i.N)
		case scope.OIf:
			text += " local.get " + strconv.Itoa(i.A) + " if " + inner(i.Body) + " else " + inner(i.Other) + " end"
		case scope.OReturn:
			if c.Type != api.Void {
				text += " local.get " + strconv.Itoa(i.A)
			}
			text += " return"
		}
	}
	return text, isDeep
}

// secondEmit is the text of what a module becomes, or the error.
func secondEmit(m api.Module) (string, api.Errno) {
	memory := memoryBefore(m.Globals)
	if memory > 4096 {
		return "", api.ErrMany
	}
	text := `( module ( import "env" "in" ( func ( result i64 ) ) ) ( import "env" "out" ( func ( param i64 ) ) ) ( import "env" "trap" ( func ( param i32 ) ) ) ( memory 1 ) ( global i32 ( i32.const ` + strconv.Itoa(memory) + " ) )"
	main := -1
	for k, c := range m.Funcs {
		lists, no := scope.Scope(c)
		if no != api.OK {
			return "", no
		}
		body, isDeep := listText(m, c, lists, len(lists)-1, 0)
		if isDeep {
			return "", api.ErrDeep
		}
		if c.Name == "main" && main < 0 {
			main = k
		}
		text += " ( func $" + c.Name + typesText("param", c.Regs[:c.Params])
		if c.Type != api.Void {
			text += typesText("result", []int{c.Type})
		}
		text += typesText("local", c.Regs[c.Params:]) + body + " unreachable )"
	}
	text += ` ( export "main" ( func ` + strconv.Itoa(main+3) + " ) ) )"
	return strings.Join(strings.Fields(text), " ") + "\n", api.OK
}

func typesText(what string, types []int) string {
	if len(types) == 0 {
		return ""
	}
	s := " ( " + what
	for _, t := range types {
		s += " " + typeWord(t)
	}
	return s + " )"
}

// holdSecond holds a valid module to the second reading.
func holdSecond(t *testing.T, m api.Module) {
	t.Helper()
	want, wantNo := secondEmit(m)
	w, no := Emit(m)
	if no != wantNo {
		t.Fatalf("error %d, want %d\n%.900s", no, wantNo, sample.ShowModule(m))
	}
	if no != api.OK {
		if !sample.SameWasm(w, api.WModule{}) {
			t.Fatalf("error %d, and %s", no, sample.ShowWasm(w))
		}
		return
	}
	if got := wat.Print(w); got != want {
		t.Fatalf("%s\nbecame %s\nwant   %s", sample.ShowModule(m), got, want)
	}
}
