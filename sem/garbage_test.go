package sem

import (
	"math/rand"
	"testing"

	"mortise/api"
	"mortise/read"
	"mortise/sample"
)

// R1 and the rules of the language: a run of what check never answers ends, too, without a panic.
func TestProgramsThatAreNone(t *testing.T) {
	body := func(nodes ...api.Node) api.Program {
		return api.Program{Funcs: []api.Func{{Name: "main", Type: api.Int, Body: len(nodes) - 1, Vars: []int{api.Int}}}, Nodes: nodes}
	}
	number := api.Node{Op: api.ENumber, Type: api.Int}
	chain := []api.Node{number}
	for i := range 1 << 20 {
		chain = append(chain, api.Node{Op: api.EUnary, S: "-", Type: api.Int, Kids: []int{i}})
	}
	chain = append(chain, api.Node{Op: api.SOut, Kids: []int{len(chain) - 1}})
	huge := body(api.Node{Op: api.SBlock})
	huge.Globals = []api.Global{{Name: "t", Type: api.Long, Size: 1 << 40}}
	below := body(api.Node{Op: api.SBlock})
	below.Funcs[0].Body = -1
	for name, p := range map[string]api.Program{
		"nothing":                       {},
		"a body that is not there":      body(),
		"a body below all nodes":        below,
		"a body that is an expression":  body(number),
		"an expression that is none":    body(api.Node{Op: api.SBlock}, api.Node{Op: api.SOut, Kids: []int{0}}),
		"no such node":                  body(api.Node{Op: 99}),
		"a node within itself":          body(api.Node{Op: api.EUnary, S: "-", Kids: []int{0}}, api.Node{Op: api.SOut, Kids: []int{0}}),
		"a block within itself":         body(api.Node{Op: api.SBlock, Kids: []int{0}}),
		"two nodes within each other":   body(api.Node{Op: api.EUnary, Kids: []int{1}}, api.Node{Op: api.EUnary, Kids: []int{0}}, api.Node{Op: api.SOut, Kids: []int{0}}),
		"a kid that is not there":       body(api.Node{Op: api.SOut, Kids: []int{-1}}),
		"no kid":                        body(api.Node{Op: api.SOut}),
		"an if without kids":            body(api.Node{Op: api.SIf}),
		"a while without kids":          body(api.Node{Op: api.SWhile}),
		"a label without kids":          body(api.Node{Op: api.SLabel}),
		"a variable that is not there":  body(number, api.Node{Op: api.SAssign, Ref: 7, Kids: []int{0}}),
		"a global that is not there":    body(number, api.Node{Op: api.SAssign, Ref: -7, Kids: []int{0}}),
		"an array that is not there":    body(number, api.Node{Op: api.SStore, Ref: 1, Kids: []int{0, 0}}),
		"a function that is not there":  body(api.Node{Op: api.ECall, Ref: 1}, api.Node{Op: api.SExpr, Kids: []int{0}}),
		"arguments of no parameters":    body(number, api.Node{Op: api.ECall, Kids: []int{0}}, api.Node{Op: api.SExpr, Kids: []int{1}}),
		"nodes nested too deep":         body(chain...),
		"an array greater than all":     huge,
		"a label that is not there":     body(number, api.Node{Op: api.SGoto, S: "l"}),
		"a function that is not called": {Funcs: []api.Func{{Name: "f"}}, Nodes: []api.Node{{Op: api.SBlock}}},
	} {
		if run := Run(p, nil, 1<<20); len(run.Out) > 0 || run.Status != 0 || run.Code != 0 {
			t.Errorf("%s: %v", name, run)
		}
	}
}

func TestSpoiledPrograms(t *testing.T) {
	random := rand.New(rand.NewSource(5))
	for seed := range 2000 {
		p := read.Checked(sample.Program(seed, seed%4))
		for range 1 + random.Intn(4) {
			sample.SpoilProgram(random.Int(), &p)
		}
		Run(p, sample.Inputs()[1], 3000)
	}
}

// A program that is nested as deep as one may be, in each call that may be open, has room.
func TestDeepestProgram(t *testing.T) {
	sum := "1"
	for range 1900 {
		sum += " + 1"
	}
	p := read.Checked("int f(int n) { if (n) return f(n - 1) + " + sum + "; return 0; } int main() { return f(30); }")
	if run := Run(p, nil, 1<<20); !sample.SameRun(run, done(30*1901)) {
		t.Error(run)
	}
}
