package word

import (
	"math"
	"math/big"
	"testing"

	"mortise/api"
)

const (
	leastInt     = -1 << 31
	greatestInt  = 1<<31 - 1
	leastLong    = math.MinInt64
	greatestLong = math.MaxInt64
)

var operations = []string{"+", "-", "*", "/", "%", "&", "|", "^", "<<", ">>", "==", "!=", "<", "<=", ">", ">="}

var values = []int{api.Int, api.Long}

// samples are the ends of each type and what lies beside them, shift counts, divisors, and some numbers without a pattern.
func samples() []int {
	out := []int{leastLong, leastLong + 1, greatestLong - 1, greatestLong}
	for _, end := range []int{1 << 7, 1 << 8, 1 << 31, 1 << 32, 1 << 62} {
		for near := -1; near <= 1; near++ {
			out = append(out, end+near, -end+near)
		}
	}
	for small := -3; small <= 3; small++ {
		out = append(out, small)
	}
	for _, width := range []int{8, 32, 64} {
		out = append(out, width-1, width, width+1, 1-width, -width, -width-1)
	}
	return append(out, 65537, -65537, 1000000007, 6364136223846793005, -7046029254386353131)
}

// run is a result of Bin that must not be a trap.
func run(t *testing.T, kind int, op string, a, b int) int {
	t.Helper()
	got, trap := Bin(kind, op, a, b)
	if trap != api.NoTrap {
		t.Fatalf("type %d: %d %s %d: trap %d", kind, a, op, b, trap)
	}
	return got
}

// wrapped is what the document calls wrapping, told by numbers without an end.
func wrapped(v *big.Int, width uint) int {
	whole := new(big.Int).Lsh(big.NewInt(1), width)
	half := new(big.Int).Rsh(whole, 1)
	rest := new(big.Int).Mod(v, whole)
	if rest.Cmp(half) >= 0 {
		rest.Sub(rest, whole)
	}
	return int(rest.Int64())
}

// meant is what P1.2 says of an operation on two numbers, told by numbers without an end.
func meant(op string, a, b int, width uint) (int, int) {
	x := big.NewInt(int64(wrapped(big.NewInt(int64(a)), width)))
	y := big.NewInt(int64(wrapped(big.NewInt(int64(b)), width)))
	n := uint(new(big.Int).Mod(y, big.NewInt(int64(width))).Uint64())
	out := new(big.Int)
	if y.Sign() == 0 && (op == "/" || op == "%") {
		return 0, api.TrapZero
	}
	switch op {
	case "+":
		out.Add(x, y)
	case "-":
		out.Sub(x, y)
	case "*":
		out.Mul(x, y)
	case "/":
		out.Quo(x, y)
		if !out.IsInt64() || int(out.Int64()) != wrapped(out, width) {
			return 0, api.TrapOver
		}
	case "%":
		out.Rem(x, y)
	case "&":
		out.And(x, y)
	case "|":
		out.Or(x, y)
	case "^":
		out.Xor(x, y)
	case "<<":
		out.Lsh(x, n)
	case ">>":
		out.Rsh(x, n)
	default:
		return meantOrder(op, x.Cmp(y)), api.NoTrap
	}
	return wrapped(out, width), api.NoTrap
}

func meantOrder(op string, order int) int {
	holds := map[string][]int{"==": {0}, "!=": {-1, 1}, "<": {-1}, "<=": {-1, 0}, ">": {1}, ">=": {0, 1}}
	for _, o := range holds[op] {
		if o == order {
			return 1
		}
	}
	return 0
}

// P1.1: the widths, and 0 for whatever is no type with a width.
func TestWidth(t *testing.T) {
	want := map[int]int{api.Char: 8, api.Int: 32, api.Long: 64}
	for _, kind := range append(samples(), api.Void, api.Int, api.Long, api.Char, 4) {
		if got := Width(kind); got != want[kind] {
			t.Errorf("Width(%d): %d, want %d", kind, got, want[kind])
		}
	}
}

// P1.1: numbers are wrapped to each type, and to 0 for a type without a width.
func TestWrap(t *testing.T) {
	for _, c := range []struct{ kind, v, want int }{
		{api.Char, 200, -56}, {api.Char, 127, 127}, {api.Char, 128, -128}, {api.Char, -128, -128}, {api.Char, -129, 127}, {api.Char, 256, 0},
		{api.Int, 1 << 31, leastInt}, {api.Int, greatestInt, greatestInt}, {api.Int, leastInt, leastInt}, {api.Int, leastInt - 1, greatestInt}, {api.Int, 1 << 32, 0}, {api.Int, -1, -1},
		{api.Long, -5, -5}, {api.Long, leastLong, leastLong}, {api.Long, greatestLong, greatestLong},
		{api.Void, 7, 0}, {api.Void, -1, 0}, {4, 7, 0}, {-1, -7, 0}, {leastLong, 7, 0}, {greatestLong, leastLong, 0},
	} {
		if got := Wrap(c.kind, c.v); got != c.want {
			t.Errorf("Wrap(%d, %d): %d, want %d", c.kind, c.v, got, c.want)
		}
	}
	for _, kind := range []int{api.Char, api.Int, api.Long} {
		for _, v := range samples() {
			if got, want := Wrap(kind, v), wrapped(big.NewInt(int64(v)), uint(Width(kind))); got != want {
				t.Errorf("Wrap(%d, %d): %d, want %d", kind, v, got, want)
			}
		}
	}
}

// P1.2: the chapter's examples, and the edges that it names.
func TestBinEdges(t *testing.T) {
	for _, c := range []struct {
		kind       int
		op         string
		a, b       int
		want, trap int
	}{
		{api.Int, "+", greatestInt, 1, leastInt, 0}, {api.Long, "+", greatestInt, 1, 1 << 31, 0}, {api.Long, "+", greatestLong, 1, leastLong, 0},
		{api.Int, "-", leastInt, 1, greatestInt, 0}, {api.Long, "-", leastLong, 1, greatestLong, 0}, {api.Int, "*", leastInt, -1, leastInt, 0}, {api.Long, "*", leastLong, -1, leastLong, 0},
		{api.Int, "/", -7, 2, -3, 0}, {api.Int, "%", -7, 2, -1, 0}, {api.Int, "/", 7, -2, -3, 0}, {api.Int, "%", 7, -2, 1, 0},
		{api.Int, "/", 7, 0, 0, api.TrapZero}, {api.Int, "%", 7, 0, 0, api.TrapZero}, {api.Long, "/", 0, 0, 0, api.TrapZero}, {api.Long, "%", leastLong, 0, 0, api.TrapZero},
		{api.Int, "/", leastInt, -1, 0, api.TrapOver}, {api.Int, "%", leastInt, -1, 0, 0}, {api.Long, "/", leastLong, -1, 0, api.TrapOver}, {api.Long, "%", leastLong, -1, 0, 0},
		{api.Int, "/", leastInt + 1, -1, greatestInt, 0}, {api.Int, "/", 0, -1, 0, 0}, {api.Int, "/", leastInt, 1, leastInt, 0}, {api.Long, "/", leastInt, -1, 1 << 31, 0}, {api.Long, "/", leastLong + 1, -1, greatestLong, 0},
		{api.Int, "/", 1 << 31, -1, 0, api.TrapOver}, {api.Int, "/", 5, 1 << 32, 0, api.TrapZero}, {api.Int, "/", leastInt, 1<<32 - 1, 0, api.TrapOver},
		{api.Int, "<<", 1, 33, 2, 0}, {api.Int, "<<", 1, 32, 1, 0}, {api.Int, "<<", 1, 31, leastInt, 0}, {api.Int, "<<", 1, -1, leastInt, 0}, {api.Int, "<<", 3, -31, 6, 0}, {api.Int, "<<", 1, leastInt, 1, 0},
		{api.Long, "<<", 1, 33, 1 << 33, 0}, {api.Long, "<<", 1, 63, leastLong, 0}, {api.Long, "<<", 1, 64, 1, 0}, {api.Long, "<<", 1, -1, leastLong, 0}, {api.Long, "<<", 1, leastLong, 1, 0},
		{api.Int, ">>", -5, 1, -3, 0}, {api.Int, ">>", -5, -1, -1, 0}, {api.Int, ">>", 5, 31, 0, 0}, {api.Int, ">>", -5, 32, -5, 0}, {api.Int, ">>", 1 << 31, 31, -1, 0}, {api.Long, ">>", leastLong, 63, -1, 0}, {api.Long, ">>", -5, 65, -3, 0},
		{api.Int, "&", -4, 7, 4, 0}, {api.Int, "|", -4, 1, -3, 0}, {api.Int, "^", -1, 5, -6, 0}, {api.Int, "|", 1 << 31, 0, leastInt, 0},
		{api.Int, "==", 1 << 32, 0, 1, 0}, {api.Long, "==", 1 << 32, 0, 0, 0}, {api.Int, "<", 1 << 31, 0, 1, 0}, {api.Long, "<", 1 << 31, 0, 0, 0}, {api.Int, ">=", 1 << 31, greatestInt, 0, 0},
	} {
		if got, trap := Bin(c.kind, c.op, c.a, c.b); got != c.want || trap != c.trap {
			t.Errorf("Bin(%d, %s, %d, %d): %d, trap %d, want %d, trap %d", c.kind, c.op, c.a, c.b, got, trap, c.want, c.trap)
		}
	}
}

// P1.2: every operation on every pair of samples is what it is on numbers without an end, and wrapped.
func TestBinMeaning(t *testing.T) {
	for _, kind := range values {
		width := uint(Width(kind))
		for _, op := range operations {
			for _, a := range samples() {
				for _, b := range samples() {
					got, trap := Bin(kind, op, a, b)
					if want, wantTrap := meant(op, a, b, width); got != want || trap != wantTrap {
						t.Fatalf("Bin(%d, %s, %d, %d): %d, trap %d, want %d, trap %d", kind, op, a, b, got, trap, want, wantTrap)
					}
				}
			}
		}
	}
}

// P1.2: a type or an op that Bin does not know answers 0 and no trap, a divisor of 0 too.
func TestBinUnknown(t *testing.T) {
	unknown := []string{"", " ", "?", "&&", "||", "!", "~", "=", "+ ", "++", "<<=", "div", "\x00", "\xff", "−"}
	for _, b := range samples() {
		for _, kind := range []int{api.Void, api.Char, 4, 9, -1, -2, leastLong, greatestLong} {
			for _, op := range append(unknown, operations...) {
				if got, trap := Bin(kind, op, leastLong, b); got != 0 || trap != api.NoTrap {
					t.Errorf("Bin(%d, %q, .., %d): %d, trap %d", kind, op, b, got, trap)
				}
			}
		}
		for _, kind := range values {
			for _, op := range unknown {
				if got, trap := Bin(kind, op, leastLong, b); got != 0 || trap != api.NoTrap {
					t.Errorf("Bin(%d, %q, .., %d): %d, trap %d", kind, op, b, got, trap)
				}
			}
		}
	}
}
