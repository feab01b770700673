package sample

import "mortise/api"

// dice choose, always the same for the same seed.
type dice struct {
	state uint // of the row of numbers by which they choose
}

func newDice(seed int) dice {
	d := dice{uint(seed)}
	d.below(2) // the first numbers of neighbouring seeds are alike
	return d
}

// below is a number from 0 to n - 1.
func (d *dice) below(n int) int {
	d.state = d.state*6364136223846793005 + 1442695040888963407
	return int(d.state >> 33 % uint(n))
}

func (d *dice) chance(n int) bool { return d.below(n) == 0 }

func (d *dice) pick(l ...string) string { return l[d.below(len(l))] }

func (d *dice) number(l ...int) int { return l[d.below(len(l))] }

// constant is a number of a type.
func (d *dice) constant(t int) int {
	if t == api.Long && d.chance(3) {
		return d.number(1<<31, 1<<32, 1<<40+5, -1<<40, 33, -1<<63, 1<<63-1)
	}
	return d.number(0, 1, 2, 3, 5, 7, 31, 32, 100, 255, -1, -2, -128, -1<<31, 1<<31-1)
}
