package word

import (
	"testing"

	"mortise/api"
)

// P1.3: a wrapped number is of its type, stays as it is when wrapped again, and is the same for numbers that differ by a multiple of 2^w.
func TestWrapping(t *testing.T) {
	for _, kind := range []int{api.Char, api.Int, api.Long} {
		for _, v := range samples() {
			got := Wrap(kind, v)
			if !isOf(kind, got) {
				t.Fatalf("Wrap(%d, %d): %d is not of the type", kind, v, got)
			}
			if again := Wrap(kind, got); again != got {
				t.Fatalf("Wrap(%d, %d): %d, wrapped again %d", kind, v, got, again)
			}
			for _, times := range samples() { // for Long 2^w is 0 in Go's int, as all ints are modulo 2^64
				if other := Wrap(kind, v+times<<Width(kind)); other != got {
					t.Fatalf("Wrap(%d, %d + %d * 2^w): %d, want %d", kind, v, times, other, got)
				}
			}
		}
	}
}

// isOf tells whether a number is of a type: from -2^(w-1) to 2^(w-1) - 1.
func isOf(kind, v int) bool {
	half := -1 << (Width(kind) - 1)
	return half <= v && v <= -(half+1)
}

// P1.3: each result of Bin is of its type, and 0 beside a trap.
func TestResultsAreOfTheirType(t *testing.T) {
	for _, kind := range values {
		for _, op := range operations {
			for _, a := range samples() {
				for _, b := range samples() {
					got, trap := Bin(kind, op, a, b)
					if !isOf(kind, got) || trap != api.NoTrap && got != 0 {
						t.Fatalf("Bin(%d, %s, %d, %d): %d, trap %d", kind, op, a, b, got, trap)
					}
				}
			}
		}
	}
}

// P1.4: + and * are commutative, and a - b plus b is a.
func TestRingOfTwo(t *testing.T) {
	for _, kind := range values {
		for _, a := range samples() {
			for _, b := range samples() {
				for _, op := range []string{"+", "*"} {
					if run(t, kind, op, a, b) != run(t, kind, op, b, a) {
						t.Fatalf("type %d: %d %s %d hangs on the order", kind, a, op, b)
					}
				}
				if got := run(t, kind, "+", run(t, kind, "-", a, b), b); got != Wrap(kind, a) {
					t.Fatalf("type %d: %d - %d + %d: %d", kind, a, b, b, got)
				}
			}
		}
	}
}

// P1.4: + and * are associative, and * is distributive over +.
func TestRingOfThree(t *testing.T) {
	for _, kind := range values {
		for _, a := range samples() {
			for _, b := range samples() {
				for _, c := range samples() {
					for _, op := range []string{"+", "*"} {
						if run(t, kind, op, run(t, kind, op, a, b), c) != run(t, kind, op, a, run(t, kind, op, b, c)) {
							t.Fatalf("type %d: %d %s %d %s %d hangs on the grouping", kind, a, op, b, op, c)
						}
					}
					apart := run(t, kind, "+", run(t, kind, "*", a, b), run(t, kind, "*", a, c))
					if run(t, kind, "*", a, run(t, kind, "+", b, c)) != apart {
						t.Fatalf("type %d: %d * (%d + %d) is not distributed", kind, a, b, c)
					}
				}
			}
		}
	}
}

// P1.5: the quotient times b plus the remainder is a; the remainder is closer to 0 than b, and has a's sign or is 0.
func TestDivision(t *testing.T) {
	for _, kind := range values {
		for _, a := range samples() {
			for _, b := range samples() {
				quotient, trap := Bin(kind, "/", a, b)
				if trap != api.NoTrap {
					continue
				}
				rest := run(t, kind, "%", a, b)
				if run(t, kind, "+", run(t, kind, "*", quotient, b), rest) != Wrap(kind, a) {
					t.Fatalf("type %d: %d / %d: %d, rest %d", kind, a, b, quotient, rest)
				}
				if below(rest) <= below(Wrap(kind, b)) {
					t.Fatalf("type %d: %d %% %d: %d is not closer to 0", kind, a, b, rest)
				}
				if rest != 0 && rest < 0 != (Wrap(kind, a) < 0) {
					t.Fatalf("type %d: %d %% %d: %d has another sign", kind, a, b, rest)
				}
			}
		}
	}
}

// below is the one of v and -v that is not above 0: so the least number has one, too.
func below(v int) int {
	if v > 0 {
		return -v
	}
	return v
}

// P1.6: a | b plus a & b is a + b; a ^ b plus twice a & b is a + b, too.
func TestBits(t *testing.T) {
	for _, kind := range values {
		for _, a := range samples() {
			for _, b := range samples() {
				sum, both := run(t, kind, "+", a, b), run(t, kind, "&", a, b)
				if got := run(t, kind, "+", run(t, kind, "|", a, b), both); got != sum {
					t.Fatalf("type %d: (%d | %d) + (%d & %d): %d, want %d", kind, a, b, a, b, got, sum)
				}
				if got := run(t, kind, "+", run(t, kind, "^", a, b), run(t, kind, "*", 2, both)); got != sum {
					t.Fatalf("type %d: (%d ^ %d) + 2 * (%d & %d): %d, want %d", kind, a, b, a, b, got, sum)
				}
			}
		}
	}
}

// P1.7: exactly one of <, == and > holds, and <=, >= and != hold where their opposites do not.
func TestOrder(t *testing.T) {
	opposites := map[string]string{"<=": ">", ">=": "<", "!=": "=="}
	for _, kind := range values {
		for _, a := range samples() {
			for _, b := range samples() {
				less, same, more := run(t, kind, "<", a, b), run(t, kind, "==", a, b), run(t, kind, ">", a, b)
				if less+same+more != 1 || less < 0 || same < 0 || more < 0 {
					t.Fatalf("type %d: %d, %d: < %d, == %d, > %d", kind, a, b, less, same, more)
				}
				for op, opposite := range opposites {
					if run(t, kind, op, a, b) != 1-run(t, kind, opposite, a, b) {
						t.Fatalf("type %d: %d %s %d is as its opposite", kind, a, op, b)
					}
				}
			}
		}
	}
}
