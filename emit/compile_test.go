package emit

import (
	"strings"
	"testing"

	"mortise/api"
	"mortise/check"
	"mortise/dom"
	"mortise/lex"
	"mortise/lower"
	"mortise/parse"
	"mortise/read"
	"mortise/sample"
	"mortise/sem"
	"mortise/wasm"
	"mortise/wat"
)

// P14.3: the first error of lex, parse and check, with its place, whatever the settings.
func TestErrorsOfTexts(t *testing.T) {
	for text, want := range map[string]api.Diag{
		"":                                   {No: api.ErrMain},
		"#":                                  {No: api.ErrSign},
		"int main() { return 01; }":          {No: api.ErrForm, At: 20},
		"int main() { return 2147483648; }":  {No: api.ErrRange, At: 20},
		strings.Repeat(" ", api.MaxText+1):   {No: api.ErrLong},
		strings.Repeat(" ", api.MaxText):     {No: api.ErrMain},
		"int a234567890123456789012345;":     {No: api.ErrLong, At: 4},
		"int main() { return 1 }":            {No: api.ErrForm, At: 22},
		"int main() { return 1; ":            {No: api.ErrForm, At: 23},
		"int t[0]; int main() { return 1; }": {No: api.ErrRange, At: 6},
		"int main() { return " + strings.Repeat("-", 40) + "1; }": {No: api.ErrDeep, At: 58},
		"int main() { " + strings.Repeat("return 1;", 2000) + "}": {No: api.ErrMany, At: 11},
		"int main() { " + strings.Repeat("return 1;", 2001) + "}": {No: api.ErrMany, At: 13 + 9*2000 + 7},
		"int x; int main(){ x = y; return 0;}":                    {No: api.ErrName, At: 23},
		"int x; int x; int main(){ return 0;}":                    {No: api.ErrTwice, At: 11},
		"int t[1024]; char c; int main(){return 0;}":              {No: api.ErrForm, At: 19},
		"int t[1024]; int x; int main(){return 0;}":               {No: api.ErrMany, At: 17},
		"int main(){ return v(); } void v() { }":                  {No: api.ErrType, At: 12},
		"int f(){return 0;}":                                      {No: api.ErrMain},
		"int main(int a){return 0;}":                              {No: api.ErrMain, At: 4},
		"int main(){ int x = x; return 0; }":                      {No: api.ErrName, At: 20},
		"int main(){ goto l; return 0;}":                          {No: api.ErrLabel, At: 12},
		"int f(int a){return f();} int main(){ }":                 {No: api.ErrArgs, At: 20},
		// an earlier layer's error comes first, wherever it stands
		"int main() { return x } #":                                      {No: api.ErrSign, At: 24},
		"int main() { x = 1; return 1 }":                                 {No: api.ErrForm, At: 29},
		"int main() { x = 1;" + strings.Repeat(" return 1;", 401) + " }": {No: api.ErrName, At: 13},
	} {
		for settings := range 16 {
			if got, d := Compile(text, settings); got != "" || d != want {
				t.Errorf("%.80s with %d: %.80s, %v, want %v", text, settings, got, d, want)
			}
		}
	}
}

// twoEntries is a text whose loop has two entries: no copies of its blocks ever make it one with one entry.
const twoEntries = "int main() { if (in()) goto a; else goto b; a: out(1); if (in()) goto b; goto a; b: out(2); goto a; }"

// P14.3: errors of lower, which is before anything is made better, and of dom.Split, have no place.
func TestErrorsOfLimits(t *testing.T) {
	returns := func(count int) string { return strings.Repeat(" return;", count) }
	other := strings.Replace(twoEntries, "main", "f", 1)
	for text, want := range map[string]api.Errno{
		"int main() { } void f() {" + returns(398) + " }":                                 api.OK,
		"int main() { } void f() {" + returns(399) + " }":                                 api.OK,
		"int main() { } void f() {" + returns(400) + " }":                                 api.ErrMany,
		"void f() {" + returns(400) + " } int main() { }":                                 api.ErrMany,
		"int main() { " + strings.Repeat("out(-in());", 500) + " }":                       api.OK,
		"int g; int main() { " + strings.Repeat("g = --------------------g;", 100) + " }": api.ErrMany,
		"int main() { return 1;" + strings.Repeat(" if (0) { }", 201) + " }":              api.ErrMany,
		twoEntries:               api.ErrSplit,
		other + "int main() { }": api.ErrSplit,
		"int main() { }" + other: api.ErrSplit,
		other + "int main() { } void g() {" + returns(400) + "}": api.ErrMany,
	} {
		for settings := range 16 {
			if got, d := Compile(text, settings); (got == "") != (want != api.OK) || d != (api.Diag{No: want}) {
				t.Errorf("%.80s with %d: %.80s, %v, want %d", text, settings, got, d, want)
			}
		}
	}
}

// P14.3: what dom.Split splits was made better.
func TestSplitOfBetter(t *testing.T) {
	text := strings.Replace(twoEntries, "(in())", "(0)", 1)
	for settings := range 16 {
		want := api.Diag{No: api.ErrSplit}
		if settings&Fold != 0 {
			want = api.Diag{}
		}
		if _, d := compiles(t, text, settings); d != want {
			t.Errorf("with %d: %v", settings, d)
		}
	}
}

// P14.3: dom.Split may make as many blocks as there may be.
func TestMaxBlocks(t *testing.T) {
	found := map[api.Errno]int{}
	for count := range 30 {
		text := "int main() { if (in()) goto b; a: out(1); b: out(2); if (in()) goto a; return 0;" + strings.Repeat(" return 1;", 365+count) + " }"
		m, d := compiles(t, text, 0)
		found[d.No]++
		if d.No == api.OK && !sample.SameRun(wasm.Run(m, []int{1, 1, 1, 0}, 10000), api.Run{Out: []int{2, 1, 2, 1, 2}, Status: api.Done}) {
			t.Error(count)
		}
	}
	if found[api.OK] < 3 || found[api.ErrSplit] < 2 {
		t.Error(found)
	}
}

// P14.3: the error of Emit. No text is known that is nested so deep.
func TestErrorOfEmit(t *testing.T) {
	for _, x := range []struct {
		funcs []api.Code
		want  api.Errno
	}{
		{[]api.Code{deep(200, 0, "")}, api.ErrDeep},
		{[]api.Code{deep(200, 0, ""), mainOf("i: branch to1 or2 | branch to2 or1 | jump to1")}, api.ErrSplit},
	} {
		if w, no := split(api.Module{Funcs: x.funcs}); no != x.want || !sample.SameWasm(w, api.WModule{}) {
			t.Errorf("error %d, want %d", no, x.want)
		}
	}
}

// secondCompile is the second reading of P14.3.
func secondCompile(text string, settings int) (string, api.Diag) {
	tokens, d := lex.Lex(text)
	var p api.Program
	if d.No == api.OK {
		p, d = parse.Parse(tokens)
	}
	if d.No == api.OK {
		p, d = check.Check(p)
	}
	if d.No != api.OK {
		return "", d
	}
	m, no := lower.Lower(p)
	if no == api.OK {
		m = secondBetter(m, settings)
		for k := range m.Funcs {
			if no == api.OK {
				m.Funcs[k], no = dom.Split(m.Funcs[k], 400)
			}
		}
	}
	if no != api.OK {
		return "", api.Diag{No: no}
	}
	out, no := secondEmit(m)
	return out, api.Diag{No: no}
}

// compiles holds what a text with settings is compiled to against the second reading, and is its module, if there is one.
func compiles(t *testing.T, text string, settings int) (api.WModule, api.Diag) {
	t.Helper()
	got, d := Compile(text, settings)
	want, wantD := secondCompile(text, settings)
	if got != want || d != wantD {
		t.Fatalf("%.900s with %d: error %v, want %v\n%.900s\nwant %.900s", text, settings, d, wantD, got, want)
	}
	if d.No != api.OK {
		return api.WModule{}, d
	}
	m, no := wat.Parse(got)
	if no != api.OK || wasm.Check(m) != api.OK || wat.Print(m) != got {
		t.Fatalf("%.900s with %d: error %d, %d", text, settings, no, wasm.Check(m))
	}
	return m, d
}

// holdMeaning holds S1 to S3 for a text: compiled with any settings, it does what the program does; it is how the run ends with the first input.
func holdMeaning(t *testing.T, text string, inputs ...[]int) api.Run {
	t.Helper()
	p := read.Checked(text)
	const most = 1500
	var first api.Run
	for settings := range 16 {
		m, d := compiles(t, text, settings)
		if d.No == api.ErrMany || d.No == api.ErrSplit {
			break // a program that is too great; it takes long to find that out
		}
		for k, input := range inputs {
			want := sem.Run(p, input, most)
			enough := 2000 * most
			if want.Status == api.Going {
				enough = 10 * most // its end is not known, but how its output begins
			}
			got := wasm.Run(m, input, enough)
			if want.Status == api.Going {
				both := min(len(got.Out), len(want.Out))
				got, want = api.Run{Out: got.Out[:both]}, api.Run{Out: want.Out[:both]}
			}
			if !sample.SameRun(got, want) {
				t.Fatalf("%.900s with %d, input %v: %v, want %v", text, settings, input, got, want)
			}
			if k == 0 {
				first = want
			}
		}
	}
	return first
}

// S1 to S3, P14.3: made programs.
func TestPrograms(t *testing.T) {
	ended := sample.Ended{}
	for seed := range 120 {
		ended.Add(holdMeaning(t, sample.Program(seed, seed%5), sample.Inputs()...))
	}
	if rare := ended.Rare(2); len(rare) > 0 || ended["done"] < 50 {
		t.Error("few runs ended so:", rare, ended)
	}
}

// P14.3, S4: spoiled texts have the first error of the layers, with its place.
func TestSpoiledTexts(t *testing.T) {
	found := map[api.Errno]int{}
	for seed := range 1500 {
		text := sample.Program(seed, seed%4)
		at := seed * 7919 % len(text)
		piece := []string{"", "1", ";", "}", "x", " goto a;", "#", "int", "(", " return;"}[seed%10]
		_, d := compiles(t, text[:at]+piece+text[min(len(text), at+seed%3):], seed%16)
		found[d.No]++
	}
	for _, no := range []api.Errno{api.OK, api.ErrSign, api.ErrForm, api.ErrName, api.ErrType, api.ErrLabel} {
		if found[no] < 3 {
			t.Error(no, found)
		}
	}
}

// The ten examples of the whole.
func TestExamplesOfTheWhole(t *testing.T) {
	done := func(code int, out ...int) api.Run { return api.Run{Out: out, Status: api.Done, Code: code} }
	trapped := func(code int) api.Run { return api.Run{Status: api.Trapped, Code: code} }
	for _, x := range []struct {
		text  string
		input []int
		want  api.Run
	}{
		{"int main() { return 7; }", nil, done(7)},
		{"int main() { out(in() + 1); return 0; }", []int{41}, done(0, 42)},
		{"int main() { out(2147483647 + 1); out(2147483647L + 1); }", nil, done(0, -2147483648, 2147483648)},
		{"int main() { return 1 / in(); }", nil, trapped(api.TrapZero)},
		{"int main() { return (0 - 2147483647 - 1) / (0 - 1); }", nil, trapped(api.TrapOver)},
		{"int t[3]; int main() { return t[3]; }", nil, trapped(api.TrapIndex)},
		{"int t[3]; int main() { return t[0 - 1]; }", nil, trapped(api.TrapIndex)},
		{"int t[3]; int main() { t[3] = 1; }", nil, trapped(api.TrapIndex)},
		{"int f() { return f(); } int main() { return f(); }", nil, trapped(api.TrapCalls)},
		{"int f(int n) { if (n) return f(n - 1); return 9; } int main() { return f(30); }", nil, done(9)},
		{"int f(int n) { if (n) return f(n - 1); return 9; } int main() { return f(31); }", nil, trapped(api.TrapCalls)},
		{"int main() { int k = 5; if (in()) goto a; b: out(1); a: out(2); k = k - 1; if (k) goto b; return k; }", []int{1}, done(0, 2, 1, 2, 1, 2, 1, 2, 1, 2)},
		{"int main() { int k = 5; if (in()) goto a; b: out(1); a: out(2); k = k - 2; if (k > 0) goto b; return k; }", nil, done(-1, 1, 2, 1, 2, 1, 2)},
		{"int main() { int a = in(); int b = in(); if (a) if (b) out(1); else out(2); }", []int{1, 0}, done(0, 2)},
		{"int main() { int a = in(); int b = in(); if (a) if (b) out(1); else out(2); }", []int{0, 0}, done(0)},
		{"char c[3]; long l; int main() { c[2] = 200; l = 1L << 40; out(c[2]); out(l); out((char) 511L); out((int) (l + 5)); }", nil, done(0, -56, 1<<40, -1, 5)},
	} {
		if run := holdMeaning(t, x.text, x.input); !sample.SameRun(run, x.want) {
			t.Errorf("%s: %v, want %v", x.text, run, x.want)
		}
		for settings := range 16 {
			m, d := compiles(t, x.text, settings)
			if run := wasm.Run(m, x.input, 10000); d.No != api.OK || !sample.SameRun(run, x.want) {
				t.Errorf("%s with %d: error %v, %v, want %v", x.text, settings, d, run, x.want)
			}
		}
	}
}
