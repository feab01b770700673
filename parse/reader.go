package parse

import (
	"slices"
	"strings"

	"mortise/api"
)

// reader reads tokens, one after the other, and keeps the nodes that are finished.
type reader struct {
	tokens     []api.Token // those ahead of the end
	end        api.Token
	place      int // of the next token
	nodes      []api.Node
	statements map[string]func(r *reader, depth int) int
}

func newReader(l []api.Token) *reader {
	r := &reader{tokens: l, end: api.Token{Kind: api.TEnd}, statements: statements()}
	if n := slices.IndexFunc(l, isEnd); n >= 0 {
		r.tokens, r.end = l[:n], l[n]
	} else if len(l) > 0 {
		r.end.At = l[len(l)-1].At
	}
	return r
}

// peek is the next token, which stays the next one.
func (r *reader) peek() api.Token {
	if r.place < len(r.tokens) {
		return r.tokens[r.place]
	}
	return r.end
}

// next reads a token, whatever it is.
func (r *reader) next() api.Token {
	t := r.peek()
	r.place++
	t.S = strings.Clone(t.S) // a program keeps nothing of the tokens
	return t
}

// is tells whether the next token is that word or sign.
func (r *reader) is(text string) bool { return quoted(r.peek()) == text }

// accept reads that word or sign, if it stands here.
func (r *reader) accept(text string) bool {
	if !r.is(text) {
		return false
	}
	r.next()
	return true
}

// expect reads words and signs that must stand here.
func (r *reader) expect(texts ...string) {
	for _, s := range texts {
		if !r.accept(s) {
			panic(r.wrong(api.ErrForm))
		}
	}
}

// name reads a name that must stand here.
func (r *reader) name() api.Token {
	if !isName(r.peek()) {
		panic(r.wrong(api.ErrForm))
	}
	return r.next()
}

// typed reads the word of one of some types, which must stand here.
func (r *reader) typed(kinds ...int) int {
	kind, ok := typeNamed(quoted(r.peek()))
	if !ok || !slices.Contains(kinds, kind) {
		panic(r.wrong(api.ErrForm))
	}
	r.next()
	return kind
}

// add finishes a node.
func (r *reader) add(n api.Node) int {
	if len(r.nodes) >= api.MaxNodes {
		panic(fault{No: api.ErrMany, At: n.At})
	}
	r.nodes = append(r.nodes, n)
	return len(r.nodes) - 1
}

// enter begins a statement or an operand at the next token, whatever that is.
func (r *reader) enter(depth int) {
	if depth > api.MaxDeep {
		panic(r.wrong(api.ErrDeep))
	}
}

// wrong is an error at the next token.
func (r *reader) wrong(no api.Errno) fault { return fault{No: no, At: r.peek().At} }

// quoted is the text of a word or a sign, by which the grammar tells it; other tokens have none.
func quoted(t api.Token) string {
	if t.Kind == api.TSign || t.Kind == api.TName && isWord(t.S) {
		return t.S
	}
	return ""
}

func isName(t api.Token) bool { return t.Kind == api.TName && !isWord(t.S) }

func isEnd(t api.Token) bool { return t.Kind == api.TEnd }

// isWord tells whether a text is one of the words that name nothing.
func isWord(s string) bool {
	switch s {
	case "char", "int", "long", "void", "if", "else", "while", "goto", "return", "in", "out":
		return true
	}
	return false
}

// typeNames are the words of the types, at their numbers.
var typeNames = [...]string{api.Void: "void", api.Int: "int", api.Long: "long", api.Char: "char"}

func typeNamed(text string) (int, bool) {
	for kind, s := range typeNames {
		if s == text {
			return kind, true
		}
	}
	return 0, false
}
