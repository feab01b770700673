// Package read reads the texts that tests are made of: whatever is wrong in one ends the test.
package read

import (
	"strconv"

	"mortise/api"
	"mortise/check"
	"mortise/lex"
	"mortise/parse"
)

// Checked is the checked program of a text.
func Checked(text string) api.Program {
	tokens, d := lex.Lex(text)
	mustBeRight(d, text)
	p, d := parse.Parse(tokens)
	mustBeRight(d, text)
	p, d = check.Check(p)
	mustBeRight(d, text)
	return p
}

func mustBeRight(d api.Diag, text string) {
	if d.No != api.OK {
		panic("error " + strconv.Itoa(int(d.No)) + " at " + strconv.Itoa(d.At) + " of " + text)
	}
}
