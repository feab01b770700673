package parse

import (
	"strconv"
	"strings"

	"mortise/api"
)

// patterns are the texts of nodes, at their operations: their tokens, where N is the number, S the name or the sign, T the type, a digit one of the kids, * all of them, and *, all of them with commas between.
var patterns = [...]string{
	api.ENumber: "N",
	api.EName:   "S",
	api.EIndex:  "S [ 0 ]",
	api.EUnary:  "S 0",
	api.EBinary: "0 S 1",
	api.ECast:   "( T ) 0",
	api.ECall:   "S ( *, )",
	api.EIn:     "in ( )",
	api.SBlock:  "{ * }",
	api.SLocal:  "T S = 0 ;",
	api.SAssign: "S = 0 ;",
	api.SStore:  "S [ 0 ] = 1 ;",
	api.SIf:     "if ( 0 ) 1",
	api.SWhile:  "while ( 0 ) 1",
	api.SGoto:   "goto S ;",
	api.SLabel:  "S : 0",
	api.SReturn: "return ;",
	api.SOut:    "out ( 0 ) ;",
	api.SExpr:   "0 ;",
}

// pattern is a node's text, in the form of the table.
func pattern(n api.Node) string {
	switch {
	case n.Op == api.SIf && len(n.Kids) > 2:
		return "if ( 0 ) 1 else 2"
	case n.Op == api.SReturn && len(n.Kids) > 0:
		return "return 0 ;"
	}
	return patterns[n.Op]
}

// pieces are the parts of a node's text.
func (w *writer) pieces(n api.Node) []piece {
	var l []piece
	for _, part := range strings.Fields(pattern(n)) {
		switch part {
		case "N":
			l = append(l, piece{token: digits(n)})
		case "S":
			l = append(l, piece{token: n.S})
		case "T":
			l = append(l, piece{token: typeNames[n.To]})
		case "0", "1", "2":
			l = append(l, w.kid(n, int(part[0]-'0'))...)
		case "*", "*,":
			l = append(l, kids(n, part[1:])...)
		default:
			l = append(l, piece{token: part})
		}
	}
	return l
}

// kids are all kids of a node, with a token between any two of them, if there is one.
func kids(n api.Node, between string) []piece {
	var l []piece
	for i, k := range n.Kids {
		if i > 0 && between != "" {
			l = append(l, piece{token: between})
		}
		l = append(l, piece{node: k})
	}
	return l
}

// kid is one of a node's kids, in parentheses if they must be.
func (w *writer) kid(n api.Node, i int) []piece {
	k := piece{node: n.Kids[i]}
	if !isEnclosed(n, i, w.nodes[k.node]) {
		return []piece{k}
	}
	return []piece{{token: "("}, k, {token: ")"}}
}

// isEnclosed tells whether a kid would be read otherwise without parentheses.
func isEnclosed(n api.Node, i int, kid api.Node) bool {
	switch {
	case kid.Op != api.EBinary:
		return false
	case n.Op == api.EUnary || n.Op == api.ECast:
		return true
	case n.Op != api.EBinary:
		return false
	case i == 0:
		return level(kid.S) < level(n.S)
	}
	return level(kid.S) <= level(n.S)
}

// digits is a number, marked as the text marks a long one.
func digits(n api.Node) string {
	s := strconv.Itoa(n.N)
	if n.Type == api.Long {
		s += "L"
	}
	return s
}
