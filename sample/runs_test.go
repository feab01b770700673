package sample

import (
	"testing"

	"mortise/api"
)

// counting are runs that output the steps from 1 on, up to three inputs long, and then end.
func counting(input []int, steps int) api.Run {
	run := api.Run{Status: api.Going}
	for k := range 3 {
		if k >= steps {
			return run
		}
		v := 0
		if k < len(input) {
			v = input[k]
		}
		run.Out = append(run.Out, v)
	}
	return api.Run{Out: run.Out, Status: api.Done, Code: 9}
}

// What is right passes; each thing that is wrong is told.
func TestRuns(t *testing.T) {
	input, want := []int{5, 6, 7}, api.Run{Out: []int{5, 6, 7}, Status: api.Done, Code: 9}
	laws := func(r Runs) []string {
		return []string{r.Take(input, 3, want), r.MoreSteps(input, 10), r.ZerosAtTheEnd(10), r.Apart(10)}
	}
	for law, wrong := range laws(counting) {
		if wrong != "" {
			t.Errorf("law %d: %s", law, wrong)
		}
	}
	count := 0
	kept := []int{1, 2, 3}
	for name, x := range map[string]struct {
		law int
		r   Runs
	}{
		"a step too many":  {0, func(input []int, steps int) api.Run { return counting(input, steps-1) }},
		"a step too few":   {0, func(input []int, steps int) api.Run { return counting(input, steps+1) }},
		"another end":      {0, func(input []int, steps int) api.Run { r := counting(input, steps); r.Code *= 2; return r }},
		"few that are one": {0, func(input []int, steps int) api.Run { return counting(input, max(steps, -5)&63) }},
		"an end that goes on": {1, func(input []int, steps int) api.Run {
			return api.Run{Status: []int{api.Going, api.Done, api.Trapped}[min(max(steps, 0), 2)]}
		}},
		"an output that is gone": {1, func(input []int, steps int) api.Run {
			return api.Run{Out: make([]int, max(0, 4-steps)), Status: api.Going}
		}},
		"a code while going on": {1, func(input []int, steps int) api.Run { return api.Run{Status: api.Going, Code: 1} }},
		"the inputs' number": {2, func(input []int, steps int) api.Run {
			return api.Run{Out: []int{len(input)}, Status: api.Done}
		}},
		"the input is changed":      {3, func(input []int, steps int) api.Run { clear(input); return counting(input, steps) }},
		"what is behind is changed": {3, func(input []int, steps int) api.Run { _ = append(input, 3); return counting(input, steps) }},
		"another one each time":     {3, func(input []int, steps int) api.Run { count++; return api.Run{Out: []int{count}, Status: api.Done} }},
		"the output is kept":        {3, func(input []int, steps int) api.Run { return api.Run{Out: kept, Status: api.Done} }},
		"the output is the input":   {3, func(input []int, steps int) api.Run { return api.Run{Out: input, Status: api.Done} }},
	} {
		if laws(x.r)[x.law] == "" {
			t.Errorf("%s: nothing was found", name)
		}
	}
}
