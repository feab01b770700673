package wat

import (
	"math/rand"
	"slices"
	"strings"
	"testing"

	"mortise/api"
	"mortise/sample"
	"mortise/wasm"
)

// P13.1: made modules have the text of a second reading of the chapter; P13.3: it is parsed, printed again as the same text, and does the same.
func TestMadeModules(t *testing.T) {
	ended := sample.Ended{}
	for seed := range 3000 {
		m := sample.Wasm(seed, seed%5)
		text := Print(m)
		if want := secondPrint(m); text != want {
			t.Fatalf("seed %d: %s, want %s", seed, text, want)
		}
		again, no := Parse(text)
		if no != api.OK || Print(again) != text {
			t.Fatalf("seed %d: error %d, %s, want %s", seed, no, Print(again), text)
		}
		third, _ := Parse(Print(again))
		if !sample.SameWasm(again, third) {
			t.Fatalf("seed %d: another module", seed)
		}
		if wrong := wasm.Check(again); wrong != api.OK {
			t.Fatalf("seed %d: error %d", seed, wrong)
		}
		for _, input := range sample.Inputs() {
			for _, steps := range []int{seed % 41, 100 + seed, 9000} {
				got, want := wasm.Run(again, input, steps), wasm.Run(m, input, steps)
				if !sample.SameRun(got, want) {
					t.Fatalf("seed %d, input %v, %d steps: %v, want %v", seed, input, steps, got, want)
				}
				ended.Add(got)
			}
		}
	}
	if rare := ended.Rare(50); len(rare) > 0 {
		t.Error("few runs ended so:", rare, ended)
	}
}

// P13.1, P13.3: spoiled modules that are still valid have the text of the second reading, and are parsed again; R1: of the others nothing is promised, but that there is an answer.
func TestSpoiledModules(t *testing.T) {
	valid := 0
	for name, m := range sample.SpoiledWasm(20000) {
		text := Print(m)
		if wasm.Check(m) != api.OK {
			continue
		}
		valid++
		again, no := Parse(text)
		if text != secondPrint(m) || no != api.OK || Print(again) != text {
			t.Fatalf("%d: %s, error %d", name, text, no)
		}
	}
	if valid < 2000 {
		t.Error(valid)
	}
}

// R1: whatever is in a module, there is an answer.
func TestStrangeModules(t *testing.T) {
	for m := range sample.StrangeWasm {
		Print(m)
	}
	Print(api.WModule{})
	for _, lists := range [][][]api.W{nil, {}, {nil}, sample.Lists("block"), sample.Lists("block, block"), sample.Lists("if b1 | if o1"), sample.Lists("loop b1"), sample.Lists("block b-1"), sample.Lists("- | block, block"), sample.Lists("- | if"), sample.Lists("if b1 o1 | block, block | loop b1")} {
		Print(module(api.WFunc{Name: "f", Lists: lists}))
	}
	wide := [][]api.W{nil}
	for k := range 100 {
		wide = append(wide, []api.W{{Op: api.WIf, Body: k, Other: k}})
	}
	Print(module(api.WFunc{Name: "f", Lists: wide}))
}

// holdText holds what a text is parsed as against the second reading; the module is printed and parsed again.
func holdText(t *testing.T, text string) api.Errno {
	t.Helper()
	m, no := Parse(text)
	want, wantNo := secondParse(text)
	if no != wantNo || !sample.SameWasm(m, want) {
		t.Fatalf("%q\nparsed: error %d, %s\nwant error %d, %s", text, no, sample.ShowWasm(m), wantNo, sample.ShowWasm(want))
	}
	if no != api.OK {
		return no
	}
	again, no := Parse(Print(m))
	if no != api.OK || !sample.SameWasm(again, m) {
		t.Fatalf("%q\nprinted %q, error %d", text, Print(m), no)
	}
	return api.OK
}

// pieces are what spoils a text.
func pieces() []string {
	return append(strings.Fields(`( ) "env" "in" "main" " i32 i64 module func param result local export global memory import block loop if else end end end br 0 1 -1 00 -0 01 9223372036854775808 -9223372036854775808 i32.const i64.const local.get call drop return i32.add i64.shr_s i32.eqz i32.load8_s i64.store i32.wrap_i64 i32.foo $f $main $0 $ x ; - . _ 7`), " ", "\n", "\t", "", "\x00", "\xff", "é")
}

// P13.2, P13.3: spoiled texts are parsed as by the second reading.
func TestSpoiledTexts(t *testing.T) {
	found := map[api.Errno]int{}
	r := rand.New(rand.NewSource(13))
	for name := range 12000 {
		text := Print(sample.Wasm(name%1000, name%4))
		for range 1 + r.Intn(3) {
			text = spoil(r, text)
		}
		found[holdText(t, text)]++
	}
	for no, least := range map[api.Errno]int{api.OK: 2000, api.ErrForm: 5000, api.ErrRange: 300} {
		if found[no] < least {
			t.Errorf("error %d was found %d times", no, found[no])
		}
	}
}

// harmless are pieces that may stand anywhere in a body, some of them with numbers that are none.
func harmless() []string {
	return []string{"drop", "return", "i32.add", "i64.shr_s", "i32.eqz", "i32.load8_s", "i64.store", "br 0", "i64.const -1", "local.get 9", "block end", "loop drop end", "if end", "if else end", "\n", "br 00", "i64.const -0"}
}

// spoil changes a token of a text, or some bytes.
func spoil(r *rand.Rand, text string) string {
	l := pieces()
	piece := l[r.Intn(len(l))]
	if r.Intn(5) == 0 {
		at := r.Intn(len(text) + 1)
		return text[:at] + piece + text[min(len(text), at+r.Intn(3)):]
	}
	tokens := strings.Fields(text)
	at := r.Intn(len(tokens))
	switch r.Intn(12) {
	case 0:
		tokens = slices.Delete(tokens, at, at+1)
	case 1:
		tokens = slices.Insert(tokens, at, piece)
	case 2:
		other := r.Intn(len(tokens))
		tokens[at], tokens[other] = tokens[other], tokens[at]
	case 3:
		tokens[at] = piece
	default:
		if at = at + max(0, slices.Index(tokens[at:], "drop")); r.Intn(4) == 0 {
			tokens[at] = piece
		} else {
			tokens = slices.Insert(tokens, at, harmless()[r.Intn(len(harmless()))])
		}
	}
	return strings.Join(tokens, " ")
}

// P13.2: all bodies of up to four of some tokens.
func TestSmallBodies(t *testing.T) {
	found := map[api.Errno]int{}
	few := strings.Fields(`block loop if else end drop br 1 01 ( ) "`)
	var hold func(body string, more int)
	hold = func(body string, more int) {
		found[holdText(t, one(body))]++
		if more == 0 {
			return
		}
		for _, s := range few {
			hold(strings.TrimSpace(body+" "+s), more-1)
		}
	}
	hold("", 4)
	if found[api.OK] < 40 || found[api.ErrForm] < 1000 || found[api.ErrRange] < 40 {
		t.Error(found)
	}
}

// P13.2: all heads of up to six of some tokens.
func TestSmallHeads(t *testing.T) {
	valid := 0
	few := []string{"(", ")", "param", "result", "local", "i32"}
	var hold func(head string, more int)
	hold = func(head string, more int) {
		if holdText(t, around("( func $f"+head+" )")) == api.OK {
			valid++
		}
		if more == 0 {
			return
		}
		for _, s := range few {
			hold(head+" "+s, more-1)
		}
	}
	hold("", 6)
	if valid < 7 {
		t.Error(valid)
	}
}

// P13.2: what is ahead of any place of a text is no module, and what blanks stand between its tokens is nothing to it.
func TestCutsAndBlanks(t *testing.T) {
	for seed := range 40 {
		text := strings.TrimSuffix(Print(sample.Wasm(seed, 1)), "\n")
		want, _ := Parse(text)
		for at := range text {
			if _, no := Parse(text[:at]); no == api.OK {
				t.Fatalf("%q is a module", text[:at])
			}
			if text[at] == ' ' {
				parses(t, text[:at]+"\n"+text[at+1:], want)
				parses(t, text[:at]+" \n "+text[at:], want)
			}
		}
		parses(t, strings.NewReplacer("( ", "(", " )", ")", ") (", ")(").Replace(text), want)
		parses(t, "\n "+text+" \n", want)
	}
}

// R3, R4: Print leaves a module as it is, also behind its lists' ends; what Parse answers is new memory, no two lists of which share any; and both answer the same again.
func TestArgumentsStayAsTheyAre(t *testing.T) {
	for seed := range 300 {
		text := Print(sample.Wasm(seed, 2))
		stays := sample.WasmStays(sample.Wasm(seed, 2), func(m api.WModule) {
			if Print(m) != text {
				t.Fatalf("seed %d: another text", seed)
			}
		})
		if !stays {
			t.Fatalf("seed %d: the module was changed", seed)
		}
		first, _ := Parse(text)
		second, _ := Parse(text)
		if !sample.WasmIsApart(first, second) || !sample.SameWasm(first, second) {
			t.Fatalf("seed %d: modules share memory, or are not the same", seed)
		}
	}
}
