package wat

import (
	"strings"
	"testing"

	"mortise/api"
	"mortise/sample"
)

// nestings are texts that begin something, and what ends that.
func nestings() [][2]string {
	return [][2]string{{"block ", "end "}, {"loop ", "end "}, {"if ", "end "}, {"if else ", "end "}, {"if ", "else end "}, {"if drop else drop ", "drop end "}}
}

// P13.2: within 400 blocks, loops and ifs stands no further one.
func TestDeepNesting(t *testing.T) {
	for _, x := range nestings() {
		for levels, want := range map[int]api.Errno{1: api.OK, 399: api.OK, 400: api.OK, 401: api.ErrDeep, 402: api.ErrDeep, 100000: api.ErrDeep} {
			if _, no := Parse(one(strings.Repeat(x[0], levels) + strings.Repeat(x[1], levels))); no != want {
				t.Errorf("%d times %s: error %d, want %d", levels, x[0], no, want)
			}
		}
		for _, y := range nestings() {
			within := strings.Repeat(x[0], 399) + strings.Repeat(y[0]+y[1], 3) + y[0] + "%" + y[1] + strings.Repeat(x[1], 399)
			for _, z := range nestings() {
				refuses(t, api.ErrDeep, one(strings.Replace(within, "%", z[0]+z[1], 1)))
			}
			if _, no := Parse(one(strings.Replace(within, "%", "drop ", 1))); no != api.OK {
				t.Errorf("399 times %s around %s: error %d", x[0], y[0], no)
			}
		}
	}
}

// P13.2: how deep one function goes is nothing to the next one, and lists beside each other are not within each other.
func TestLevelsAreCountedAnew(t *testing.T) {
	deep := strings.Repeat("block ", 400) + strings.Repeat("end ", 400)
	f := "( func $f " + deep + ") "
	m, no := Parse(around(f + f + "( func $g " + deep + deep + "if else " + strings.Repeat("loop ", 399) + strings.Repeat("end ", 400) + ")"))
	if no != api.OK || len(m.Funcs) != 3 || len(m.Funcs[1].Lists) != 401 || len(m.Funcs[2].Lists) != 1202 {
		t.Error(no, len(m.Funcs))
	}
	m, no = Parse(one(strings.Repeat("block end if else end ", 20000)))
	if no != api.OK || len(m.Funcs[0].Lists) != 60001 {
		t.Error(no)
	}
}

// P13.3: 400 lists of a function, in one another, are printed and parsed.
func TestManyLists(t *testing.T) {
	for _, op := range []int{api.WBlock, api.WLoop, api.WIf} {
		m := module(api.WFunc{Name: "f", Lists: sample.Nested(399, sample.Lists("trap")[0], op)})
		parses(t, Print(m), m)
	}
}

// P13.1: deeper nesting than Parse accepts is printed, whatever its depth.
func TestPrintOfDeepNesting(t *testing.T) {
	const levels = 1 << 16
	for op, word := range map[int]string{api.WBlock: "block", api.WLoop: "loop", api.WIf: "i32.const 1 if"} {
		for _, n := range []int{400, levels} {
			text := strings.Repeat(word+" ", n) + "drop" + strings.Repeat(" end", n)
			m := module(api.WFunc{Name: "f", Type: api.Int, Lists: sample.Nested(n, sample.Lists("drop")[0], op)})
			if Print(m) != one(text)+"\n" {
				t.Errorf("%d times %s", n, word)
			}
		}
	}
	if text := Print(module(api.WFunc{Name: "f", Lists: sample.Nested(10*levels, nil, api.WBlock)})); strings.Count(text, " end") != 10*levels {
		t.Error("many levels")
	}
}

// P13.1, P13.2: long lists, and functions with many parameters and locals.
func TestLongLists(t *testing.T) {
	const count = 1 << 16
	f := api.WFunc{Name: "f", Type: api.Long, Lists: [][]api.W{nil}}
	for k := range count {
		f.Params = append(f.Params, 1+k%2)
		f.Locals = append(f.Locals, 2-k%2)
		f.Lists[0] = append(f.Lists[0], api.W{Op: api.WGet, N: k}, api.W{Op: api.WBin, Type: api.Long, S: "shr_s"})
	}
	m := module(f, f)
	parses(t, Print(m), m)
	many := module()
	for range count {
		many.Funcs = append(many.Funcs, alone("trap").Funcs[0])
	}
	parses(t, Print(many), many)
}

// R1: long texts that are none.
func TestLongTexts(t *testing.T) {
	const size = 1 << 22
	for _, s := range []string{"(", ")", "\"", "x", " ", "\n", "-", "1", "$", "\x00", "\xff", "( ", "\" "} {
		refuses(t, api.ErrForm, strings.Repeat(s, size), one("")+strings.Repeat("x", size), one(strings.Repeat(s, size)+"x"))
	}
	refuses(t, api.ErrForm, one("i32.const "+strings.Repeat("1", size)+"x"), one(`i32.const "`+strings.Repeat("1", size)), around("( func $"+strings.Repeat("a", size)+" )"), around("( func $f ( param "+strings.Repeat("i32 ", size)))
	refuses(t, api.ErrRange, one("i32.const "+strings.Repeat("1", size)), one("i32.const -"+strings.Repeat("0", size)))
}
