package sample

import (
	"strconv"

	"mortise/api"
)

// Ended counts how runs ended.
type Ended map[string]int

// Add counts how a run ended.
func (e Ended) Add(run api.Run) {
	switch run.Status {
	case api.Done:
		e["done"]++
	case api.Trapped:
		e[trap(run.Code)]++
	default:
		e["going"]++
	}
}

func trap(code int) string { return "trap " + strconv.Itoa(code) }

// Rare tells in which ways fewer runs ended than that.
func (e Ended) Rare(least int) []string {
	var l []string
	for _, way := range []string{"done", "going", trap(api.TrapZero), trap(api.TrapOver), trap(api.TrapIndex), trap(api.TrapCalls)} {
		if e[way] < least {
			l = append(l, way)
		}
	}
	return l
}
