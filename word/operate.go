package word

import "mortise/api"

// integer are the types in which operations are done: they wrap round as the types of api of their widths do.
type integer interface{ int32 | int64 }

// operate does an operation of any kind on two numbers that are of the type t.
func operate[T integer](t int, op string, a, b T) (int, int) {
	switch op {
	case "/", "%":
		return divide(op, a, b)
	case "==", "!=", "<", "<=", ">", ">=":
		return compare(op, a, b), api.NoTrap
	case "<<", ">>":
		return shift(op, a, count(t, int(b))), api.NoTrap
	}
	return combine(op, a, b), api.NoTrap
}

// combine is for the operations that do neither trap nor ask for the type's width; 0 for an unknown one.
func combine[T integer](op string, a, b T) int {
	switch op {
	case "+":
		return int(a + b)
	case "-":
		return int(a - b)
	case "*":
		return int(a * b)
	case "&":
		return int(a & b)
	case "|":
		return int(a | b)
	case "^":
		return int(a ^ b)
	}
	return 0
}

// divide is the quotient, or the remainder.
func divide[T integer](op string, a, b T) (int, int) {
	switch {
	case b == 0:
		return 0, api.TrapZero
	case op == "%":
		return int(a % b), api.NoTrap
	case b == -1 && a < 0 && -a < 0: // the least number alone has no opposite
		return 0, api.TrapOver
	}
	return int(a / b), api.NoTrap
}

// count is how far to shift by b: widths are powers of 2, so that the lowest bits of b, below 0 too, are b modulo the width.
func count(t, b int) uint { return uint(b & (Width(t) - 1)) }

func shift[T integer](op string, a T, n uint) int {
	if op == "<<" {
		return int(a << n)
	}
	return int(a >> n)
}

func compare[T integer](op string, a, b T) int {
	switch op {
	case "==":
		return truth(a == b)
	case "!=":
		return truth(a != b)
	case "<":
		return truth(a < b)
	case "<=":
		return truth(a <= b)
	case ">":
		return truth(a > b)
	}
	return truth(a >= b)
}

func truth(is bool) int {
	if is {
		return 1
	}
	return 0
}
