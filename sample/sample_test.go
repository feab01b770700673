package sample

import (
	"testing"

	"mortise/api"
	"mortise/check"
	"mortise/lex"
	"mortise/parse"
)

func TestProgramsAreAccepted(t *testing.T) {
	for seed := range 3000 {
		text := Program(seed, seed%5)
		tokens, d := lex.Lex(text)
		p, e := parse.Parse(tokens)
		_, f := check.Check(p)
		if none := (api.Diag{}); d != none || e != none || f != none {
			t.Fatal(seed, d, e, f, text)
		}
	}
}

func TestSameSeedSameProgram(t *testing.T) {
	texts := map[string]bool{}
	for seed := range 100 {
		text := Program(seed, 2)
		if text != Program(seed, 2) {
			t.Fatal(seed)
		}
		texts[text] = true
	}
	if len(texts) < 100 {
		t.Error("programs of different seeds are alike")
	}
}
