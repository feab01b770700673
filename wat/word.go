package wat

import "mortise/api"

// What stands in each module, around its numbers and its functions.
const (
	toMemory = `( module ( import "env" "in" ( func ( result i64 ) ) ) ( import "env" "out" ( func ( param i64 ) ) ) ( import "env" "trap" ( func ( param i32 ) ) ) ( memory 1 ) ( global i32 ( i32.const`
	toFuncs  = ") )"
	toMain   = `( export "main" ( func`
	toEnd    = ") ) )"
)

// imported is how many functions have numbers ahead of the module's.
const imported = 3

// typeWords are the words of the types of values, at their numbers.
var typeWords = [...]string{api.Int: "i32", api.Long: "i64"}

// words are the first tokens of instructions, at their Ops; for those that have a type what stands behind its word.
var words = [...]string{
	api.WConst: "const", api.WGet: "local.get", api.WSet: "local.set", api.WEqz: "eqz", api.WWrap: "i32.wrap_i64", api.WExtend: "i64.extend_i32_s",
	api.WLoad: "load", api.WStore: "store", api.WCall: "call", api.WBlock: "block", api.WLoop: "loop", api.WIf: "if",
	api.WBr: "br", api.WBrIf: "br_if", api.WReturn: "return", api.WTrap: "unreachable", api.WDrop: "drop",
}

// signs are those of WBin.
var signs = [...]string{
	"add", "sub", "mul", "div_s", "rem_s", "and", "or", "xor", "shl", "shr_s",
	"eq", "ne", "lt_s", "le_s", "gt_s", "ge_s",
}

// word is an instruction's first token.
func word(i api.W) string {
	s := words[i.Op]
	switch i.Op {
	case api.WBin:
		s = i.S
	case api.WLoad:
		if i.N == 1 {
			s += "8_s"
		}
	case api.WStore:
		if i.N == 1 {
			s += "8"
		}
	case api.WConst, api.WEqz: // their words are whole
	default:
		return s
	}
	return typeWords[i.Type] + "." + s
}

// hasNumber tells whether a number stands behind an instruction's word.
func hasNumber(op int) bool {
	switch op {
	case api.WConst, api.WGet, api.WSet, api.WCall, api.WBr, api.WBrIf:
		return true
	}
	return false
}

// hasLists tells whether an instruction has lists of its own.
func hasLists(op int) bool { return op == api.WBlock || op == api.WLoop || op == api.WIf }

// meanings are what words mean: instructions without the numbers and lists that stand behind them.
func meanings() map[string]api.W {
	m := map[string]api.W{}
	for op := api.WConst; op <= api.WDrop; op++ {
		for _, i := range kinds(op) {
			m[word(i)] = i
		}
	}
	return m
}

// kinds are the instructions with an Op that differ in their words.
func kinds(op int) []api.W {
	switch op {
	case api.WConst, api.WEqz:
		return []api.W{{Op: op, Type: api.Int}, {Op: op, Type: api.Long}}
	case api.WLoad, api.WStore:
		return []api.W{{Op: op, Type: api.Int, N: 1}, {Op: op, Type: api.Int, N: 4}, {Op: op, Type: api.Long, N: 8}}
	case api.WBin:
		var l []api.W
		for _, s := range signs {
			l = append(l, api.W{Op: op, Type: api.Int, S: s}, api.W{Op: op, Type: api.Long, S: s})
		}
		return l
	}
	return []api.W{{Op: op}}
}
