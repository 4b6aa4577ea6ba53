package arith

import "math"

// How tightly signs bind, the loosest first.
const (
	none    = iota // what stands between no two numbers, as a ( that waits for its )
	compare        // at most one of them within a pair of parentheses
	sum
	prod
	unary
)

// level is how tightly a sign between two numbers binds.
func level(text string) int {
	switch text {
	case "<", "<=", ">", ">=", "==", "!=":
		return compare
	case "+", "-":
		return sum
	case "*", "/", "%":
		return prod
	}
	return none
}

// one is what a sign ahead of a number makes of it; false, if that is too much.
func one(text string, a int64) (int64, bool) {
	if text == "!" {
		return truth(a == 0), true
	}
	return -a, a != math.MinInt64
}

// two is what a sign makes of the two numbers that it stands between; false, if there is none, or it is too much.
func two(text string, a, b int64) (int64, bool) {
	switch text {
	case "+":
		return a + b, (a+b > a) == (b > 0)
	case "-":
		return a - b, (a-b < a) == (b > 0)
	case "*":
		return product(a, b)
	case "/", "%":
		return ratio(text, a, b)
	case "<":
		return truth(a < b), true
	case "<=":
		return truth(a <= b), true
	case ">":
		return truth(a > b), true
	case ">=":
		return truth(a >= b), true
	case "==":
		return truth(a == b), true
	}
	return truth(a != b), true
}

// product is that of two numbers; false, if it is too much.
func product(a, b int64) (int64, bool) {
	n := a * b
	// What wrapped does not lead back to b, but that the least number by -1 wraps both ways.
	return n, a == 0 || n/a == b && !(a == -1 && b == math.MinInt64)
}

// ratio is how often b goes into a, or what is left then; false, if b is 0, or it is too much.
func ratio(text string, a, b int64) (int64, bool) {
	if b == 0 {
		return 0, false
	}
	if text == "%" {
		return a % b, true
	}
	return a / b, !(a == math.MinInt64 && b == -1)
}

// truth is the number of what is so, or not.
func truth(so bool) int64 {
	if so {
		return 1
	}
	return 0
}
