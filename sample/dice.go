package sample

// dice choose, always the same for the same seed.
type dice struct {
	state uint // of the row of numbers by which they choose
}

func newDice(seed int) dice {
	d := dice{uint(seed)}
	d.below(2) // the first numbers of neighbouring seeds are alike
	return d
}

// below is a number from 0 to n - 1.
func (d *dice) below(n int) int {
	d.state = d.state*6364136223846793005 + 1442695040888963407
	return int(d.state >> 33 % uint(n))
}

func (d *dice) chance(n int) bool { return d.below(n) == 0 }

func (d *dice) pick(l ...string) string { return l[d.below(len(l))] }

func (d *dice) number(l ...int) int { return l[d.below(len(l))] }
