package check

// Sorts of what a name denotes.
const (
	variable = iota + 1
	scalar
	array
	function
)

// meaning is what a name denotes: its sort, and the Ref and the Type that an expression gets by it.
type meaning struct{ sort, ref, value int }

// scopes are what names denote: the program's globals and functions, and then the variables of each block that is open, the innermost last.
type scopes []map[string]meaning

func (s *scopes) open() { *s = append(*s, map[string]meaning{}) }

func (s *scopes) close() { *s = (*s)[:len(*s)-1] }

// has tells whether the innermost scope itself has a name.
func (s scopes) has(name string) bool {
	_, ok := s[len(s)-1][name]
	return ok
}

// declare gives a name its meaning in the innermost scope.
func (s scopes) declare(name string, m meaning) { s[len(s)-1][name] = m }

// find is what a name denotes here, if it denotes anything.
func (s scopes) find(name string) (meaning, bool) {
	for i := len(s) - 1; i >= 0; i-- {
		if m, ok := s[i][name]; ok {
			return m, true
		}
	}
	return meaning{}, false
}
