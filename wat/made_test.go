package wat

import (
	"testing"

	"mortise/api"
	"mortise/sample"
)

// Shorter ways to write modules and texts in tests; lists are written as sample.ShowLists shows them.

const (
	ahead  = `( module ( import "env" "in" ( func ( result i64 ) ) ) ( import "env" "out" ( func ( param i64 ) ) ) ( import "env" "trap" ( func ( param i32 ) ) ) ( memory 1 ) ( global i32 ( i32.const 16 ) ) `
	behind = `( export "main" ( func 3 ) ) )`
)

// around is a text with these functions.
func around(functions string) string { return ahead + functions + " " + behind }

// one is a text with one function, an Int, with this body.
func one(body string) string {
	if body != "" {
		body += " "
	}
	return around("( func $f ( result i32 ) " + body + ")")
}

// module is a module with these functions.
func module(l ...api.WFunc) api.WModule { return api.WModule{Funcs: l, Memory: 16} }

// alone is the module of one function f, an Int, with these lists.
func alone(lists string) api.WModule {
	return module(api.WFunc{Name: "f", Type: api.Int, Lists: sample.Lists(lists)})
}

// prints holds a module's text.
func prints(t *testing.T, m api.WModule, want string) {
	t.Helper()
	if got := Print(m); got != want+"\n" {
		t.Errorf("%s\nprinted: %s, want %s", sample.ShowWasm(m), got, want)
	}
}

// parses holds the module that a text is.
func parses(t *testing.T, text string, want api.WModule) {
	t.Helper()
	m, no := Parse(text)
	if no != api.OK || !sample.SameWasm(m, want) {
		t.Errorf("%.900s\nparsed: error %d, %.900s, want %.900s", text, no, sample.ShowWasm(m), sample.ShowWasm(want))
	}
}

// refuses holds the error of texts, besides which there is no module.
func refuses(t *testing.T, want api.Errno, texts ...string) {
	t.Helper()
	for _, text := range texts {
		m, no := Parse(text)
		if no != want || !sample.SameWasm(m, api.WModule{}) {
			t.Errorf("%.300q\nparsed: error %d, %.300s, want error %d", text, no, sample.ShowWasm(m), want)
		}
	}
}
