package wat

import (
	"strconv"
	"strings"
	"testing"

	"mortise/api"
	"mortise/sample"
	"mortise/wasm"
)

// P13.1, P13.2: the chapter's example.
func TestExample(t *testing.T) {
	const text = `( module ( import "env" "in" ( func ( result i64 ) ) ) ( import "env" "out" ( func ( param i64 ) ) ) ( import "env" "trap" ( func ( param i32 ) ) ) ( memory 1 ) ( global i32 ( i32.const 16 ) ) ( func $f ( result i32 ) i32.const 7 ) ( export "main" ( func 3 ) ) )`
	m := alone("const t1 n7")
	prints(t, m, text)
	parses(t, text, m)
	refuses(t, api.ErrRange, strings.Replace(text, "const 7", "const 07", 1))
	refuses(t, api.ErrForm, strings.Replace(text, "const 7", "cons 7", 1))
}

// bodies are bodies as texts, and the lists that they are.
func bodies() [][2]string {
	return [][2]string{
		{"i32.const 7", "const t1 n7"},
		{"i32.const 0 i32.const -1 i32.const 2147483647 i32.const -2147483648", "const t1, const t1 n-1, const t1 n2147483647, const t1 n-2147483648"},
		{"i64.const 0 i64.const 9223372036854775807 i64.const -9223372036854775808", "const t2, const t2 n9223372036854775807, const t2 n-9223372036854775808"},
		{"local.get 0 local.set 10", "get, set n10"},
		{"call 0 call 1 call 2 call 3 call 34", "call, call n1, call n2, call n3, call n34"},
		{"br 0 br 12 br_if 0 br_if 1", "br, br n12, br_if, br_if n1"},
		{"i32.eqz i64.eqz", "eqz t1, eqz t2"},
		{"i32.wrap_i64 i64.extend_i32_s", "wrap, extend"},
		{"i32.load8_s i32.load i64.load", "load t1 n1, load t1 n4, load t2 n8"},
		{"i32.store8 i32.store i64.store", "store t1 n1, store t1 n4, store t2 n8"},
		{"return unreachable drop", "return, trap, drop"},
		{"block end", "- | block"},
		{"loop end", "- | loop"},
		{"if end", "- | if o-1"},
		{"if else end", "- | - | if o1"},
		{"block drop end drop", "drop | block, drop"},
		{"loop br 0 end drop", "br | loop, drop"},
		{"i32.const 1 if return end drop", "return | const t1 n1, if o-1, drop"},
		{"i32.const 1 if return else drop end drop", "return | drop | const t1 n1, if o1, drop"},
		{"block end loop end if end", "- | - | - | block, loop b1, if b2 o-1"},
		{"block loop if end end end", "- | if o-1 | loop b1 | block b2"},
		{"if block drop end else loop return end end", "drop | block | return | loop b2 | if b1 o3"},
		{"if if end else if end end", "- | if o-1 | - | if b2 o-1 | if b1 o3"},
		{"if if else drop end end return", "- | drop | if o1 | if b2 o-1, return"},
		{"if else if else end end", "- | - | - | if b1 o2 | if o3"},
		{"block drop end block return end unreachable", "drop | return | block, block b1, trap"},
		{"", "-"},
	}
}

// P13.1, P13.2: each instruction, and the order of lists.
func TestBodies(t *testing.T) {
	for _, x := range bodies() {
		prints(t, alone(x[1]), one(x[0]))
		parses(t, one(x[0]), alone(x[1]))
	}
}

// P13.1, P13.2: each sign, of each type.
func TestSigns(t *testing.T) {
	for _, s := range strings.Fields("add sub mul div_s rem_s and or xor shl shr_s eq ne lt_s le_s gt_s ge_s") {
		for kind, name := range map[string]string{"t1": "i32", "t2": "i64"} {
			prints(t, alone("bin "+kind+" "+s), one(name+"."+s))
			parses(t, one(name+"."+s), alone("bin "+kind+" "+s))
		}
	}
}

// P13.1: lists that stand in another right order have the same text.
func TestOrderOfListsInPrint(t *testing.T) {
	for _, x := range [][2]string{
		{"drop | return | block b1, block, trap", "block return end block drop end unreachable"},
		{"drop | return | if b1", "if return else drop end"},
		{"drop | loop | return | if b2 o1", "if return else loop drop end end"},
		{"drop | return | loop b1 | block | if b3 o2", "if block drop end else loop return end end"},
	} {
		prints(t, alone(x[0]), one(x[1]))
	}
}

// P13.1: any Other below 0 is none.
func TestNoOther(t *testing.T) {
	for _, other := range []string{"-1", "-2", "-9223372036854775808"} {
		prints(t, alone("drop | if o"+other), one("if drop end"))
	}
}

// functions are functions as texts, and what they are.
func functions() []struct {
	text string
	f    api.WFunc
} {
	const i, l = api.Int, api.Long
	body := sample.Lists("trap")
	return []struct {
		text string
		f    api.WFunc
	}{
		{"( func $f unreachable )", api.WFunc{Name: "f", Lists: body}},
		{"( func $f )", api.WFunc{Name: "f", Lists: [][]api.W{{}}}},
		{"( func $f ( result i32 ) unreachable )", api.WFunc{Name: "f", Type: i, Lists: body}},
		{"( func $f ( result i64 ) unreachable )", api.WFunc{Name: "f", Type: l, Lists: body}},
		{"( func $f ( param i32 ) unreachable )", api.WFunc{Name: "f", Params: []int{i}, Lists: body}},
		{"( func $f ( param i64 i32 i64 ) unreachable )", api.WFunc{Name: "f", Params: []int{l, i, l}, Lists: body}},
		{"( func $f ( local i64 ) unreachable )", api.WFunc{Name: "f", Locals: []int{l}, Lists: body}},
		{"( func $f ( local i32 i64 i32 ) unreachable )", api.WFunc{Name: "f", Locals: []int{i, l, i}, Lists: body}},
		{"( func $f ( param i32 ) ( result i64 ) unreachable )", api.WFunc{Name: "f", Params: []int{i}, Type: l, Lists: body}},
		{"( func $f ( result i64 ) ( local i32 ) unreachable )", api.WFunc{Name: "f", Locals: []int{i}, Type: l, Lists: body}},
		{"( func $f ( param i64 ) ( local i32 ) unreachable )", api.WFunc{Name: "f", Params: []int{l}, Locals: []int{i}, Lists: body}},
		{"( func $f ( param i32 i32 ) ( result i32 ) ( local i64 i64 ) unreachable )", api.WFunc{Name: "f", Type: i, Params: []int{i, i}, Locals: []int{l, l}, Lists: body}},
	}
}

// P13.1, P13.2: what stands ahead of a function's body.
func TestFunctions(t *testing.T) {
	for _, x := range functions() {
		prints(t, module(x.f), around(x.text))
		parses(t, around(x.text), module(x.f))
	}
	f, g := alone("const t1 n1").Funcs[0], alone("drop | if o-1").Funcs[0]
	g.Name, g.Type = "g", api.Void
	text := around("( func $f ( result i32 ) i32.const 1 ) ( func $g if drop end ) ( func $f ( result i32 ) i32.const 1 )")
	prints(t, module(f, g, f), text)
	parses(t, text, module(f, g, f))
	parses(t, ahead+behind, module())
}

// P13.1, P13.2: names are tags.
func TestNames(t *testing.T) {
	long := strings.Repeat("x", api.MaxName)
	for _, name := range []string{"a", "z", "_", "__", "main", "a0", "z9", "_0", "func", "end", "i32", "e_1_", long, "_" + strings.Repeat("9", api.MaxName-1)} {
		m := alone("trap")
		m.Funcs[0].Name = name
		prints(t, m, around("( func $"+name+" ( result i32 ) unreachable )"))
		parses(t, around("( func $"+name+" ( result i32 ) unreachable )"), m)
	}
	for _, name := range []string{"", "f", "$", "$0", "$9a", "$A", "$aB", "$a.b", "$a-b", "$-", "$$a", "$é", "$a\t", "\t$a", "$a\x00", "$\xff", "$`", "${", "$@", "$[", "$/", "$:", "$" + long + "x", "$_" + long, `$"a"`, "$a(", "#a", "( $a"} {
		refuses(t, api.ErrForm, around("( func "+name+" ( result i32 ) unreachable )"))
	}
}

// P13.1, P13.2: the numbers of a module.
func TestNumbersOfModules(t *testing.T) {
	text := func(memory, main string) string {
		return strings.Replace(strings.Replace(around("( func $f unreachable )"), "16", memory, 1), "func 3", "func "+main, 1)
	}
	m := module(api.WFunc{Name: "f", Lists: sample.Lists("trap")})
	for memory, written := range map[int]string{0: "0", 1: "1", 4096: "4096", 4097: "4097", -1: "-1", 1<<63 - 1: "9223372036854775807", -1 << 63: "-9223372036854775808"} {
		m.Memory, m.Main = memory, 0
		prints(t, m, text(written, "3"))
		parses(t, text(written, "3"), m)
	}
	for main, written := range map[int]string{0: "3", 1: "4", 7: "10", -1: "2", -3: "0", -4: "-1", 1<<63 - 4: "9223372036854775807", 1<<63 - 3: "-9223372036854775808"} {
		m.Memory, m.Main = 7, main
		prints(t, m, text("7", written))
		parses(t, text("7", written), m)
	}
}

// numbered are texts in each of which a number stands in place of the sign #.
func numbered() []string {
	l := []string{strings.Replace(one("drop"), "16", "#", 1), strings.Replace(one("drop"), "func 3", "func #", 1)}
	for _, word := range []string{"i32.const", "i64.const", "local.get", "local.set", "call", "br", "br_if"} {
		l = append(l, one(word+" #"), one("block if "+word+" # else end end"))
	}
	return l
}

// P13.2: where a number is required, digits that are no number are ErrRange, and anything else is ErrForm.
func TestNumbers(t *testing.T) {
	for no, numbers := range map[api.Errno][]string{
		api.OK: {"0", "1", "9", "10", "16", "123456789", "2147483648", "-1", "-7", "-10", "-2147483649", "4294967296", "9223372036854775807", "-9223372036854775808"},
		api.ErrRange: {
			"00", "01", "007", "-0", "-00", "-01", "-007", "9223372036854775808", "-9223372036854775809", "9999999999999999999", "18446744073709551616", "18446744073709551623",
			"-18446744073709551616", "0000000000000000000000007", strings.Repeat("1", 1000), "-" + strings.Repeat("9", 1000), strings.Repeat("0", 1000),
		},
		api.ErrForm: {"", "-", "--1", "+1", "+0", "1-", "-1-", "1_000", "0x1", "0x", "1e3", "1.", ".1", "1L", "a", "-a", "1a", "-1a", "٣", "１", "1\t", "\t1", "1\x00", "$1", `"1"`, "(", ")", "( 1", "- 1", "-(1", "i32.const", "end", "\""},
	} {
		for _, n := range numbers {
			for _, text := range numbered() {
				if _, got := Parse(strings.Replace(text, "#", n, 1)); got != no {
					t.Errorf("%q in %s: error %d, want %d", n, text, got, no)
				}
			}
		}
	}
}

// P13.2: each N, far out of any place, too: what is valid is not checked.
func TestNumbersAreKept(t *testing.T) {
	for _, n := range []int{0, 1, 5000000000, -1, 1<<63 - 1, -1 << 63} {
		s := strconv.Itoa(n)
		parses(t, one("i32.const "+s+" local.get "+s+" call "+s+" block br "+s+" end"), module(api.WFunc{Name: "f", Type: api.Int, Lists: [][]api.W{
			{{Op: api.WBr, N: n}},
			{{Op: api.WConst, Type: api.Int, N: n}, {Op: api.WGet, N: n}, {Op: api.WCall, N: n}, {Op: api.WBlock}},
		}}))
	}
}

// P13.2: a text that wasm.Check would refuse is parsed.
func TestInvalidModules(t *testing.T) {
	for _, x := range []struct {
		text string
		no   api.Errno
	}{
		{ahead + behind, api.ErrMain},
		{one(""), api.ErrStack},
		{one("drop"), api.ErrStack},
		{one("br 1"), api.ErrRange},
		{one("i32.const 2147483648"), api.ErrRange},
		{around("( func $f ( result i64 ) i64.const 1 )"), api.ErrMain},
	} {
		m, no := Parse(x.text)
		if no != api.OK {
			t.Errorf("%s: error %d", x.text, no)
		}
		if wrong := wasm.Check(m); wrong != x.no {
			t.Errorf("%s: wasm.Check: %d, want %d", x.text, wrong, x.no)
		}
	}
}
