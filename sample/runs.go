package sample

import (
	"math"
	"slices"
	"strconv"
	"strings"

	"mortise/api"
)

// Runs are the runs of one thing, with any input and any number of steps.
type Runs func(input []int, steps int) api.Run

// Take tells what is wrong with runs that must end so within so many steps, and within no fewer.
func (r Runs) Take(input []int, steps int, want api.Run) string {
	for _, enough := range []int{steps, steps + 1, steps + 1000, math.MaxInt} {
		if run := r(input, enough); !SameRun(run, want) {
			return told(enough, run, "want "+showRun(want))
		}
	}
	for k := range steps + 2 {
		few := k - 1
		if k > steps {
			few = math.MinInt
		}
		run := r(input, few)
		if run.Status != api.Going || run.Code != 0 || !isWithin(run.Out, want.Out) {
			return told(few, run, "want it to be going on")
		}
	}
	return ""
}

// MoreSteps tells what is wrong with runs of up to so many steps: with more of them the output begins with the same output, and an end stays as it is.
func (r Runs) MoreSteps(input []int, most int) string {
	before := r(input, -1)
	for steps := range most {
		run := r(input, steps)
		if !Keeps(before, run) {
			return told(steps, run, "with one less "+showRun(before))
		}
		if run.Status == api.Going && run.Code != 0 {
			return told(steps, run, "a code")
		}
		before = run
	}
	return ""
}

// ZerosAtTheEnd tells what is wrong with runs to whose inputs zeros were added: they do the same.
func (r Runs) ZerosAtTheEnd(steps int) string {
	for _, input := range Inputs() {
		run, zeros := r(input, steps), r(append(slices.Clone(input), 0, 0, 0), steps)
		if !SameRun(run, zeros) {
			return told(steps, run, "with zeros "+showRun(zeros))
		}
	}
	return ""
}

// Apart tells what is wrong with how a run takes its input, and with what it answers: that stays as it is, also behind its length, this is new memory; and the run is the same again.
func (r Runs) Apart(steps int) string {
	room := []int{4, 5, 6, 77, 88, 99}
	input := room[:3]
	run := r(input, steps)
	first := run
	first.Out = slices.Clone(run.Out)
	for k := range run.Out[:cap(run.Out)] {
		run.Out[:cap(run.Out)][k] = -1
	}
	switch {
	case !slices.Equal(room, []int{4, 5, 6, 77, 88, 99}):
		return "the input was changed"
	case !SameRun(r(input, steps), first):
		return told(steps, r(input, steps), "at first "+showRun(first))
	}
	return ""
}

// isWithin tells whether an output is how another one begins.
func isWithin(short, long []int) bool {
	return len(short) <= len(long) && slices.Equal(short, long[:len(short)])
}

func told(steps int, run api.Run, and string) string {
	return strconv.Itoa(steps) + " steps: " + showRun(run) + ", " + and
}

// showRun is a run as a text.
func showRun(run api.Run) string {
	var out []string
	for _, v := range run.Out {
		out = append(out, strconv.Itoa(v))
	}
	return "[" + strings.Join(out, " ") + "] " + strconv.Itoa(run.Status) + " " + strconv.Itoa(run.Code)
}
