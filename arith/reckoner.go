package arith

import "lazarus/glyph"

// reckoner reckons what is left from left to right: nums and signs wait for what is behind them; bad: something had no number.
// They wait in lists, because calls within calls would be too many where a text is deep.
type reckoner struct {
	left  string
	names names
	nums  []int64
	signs []sign
	bad   bool
}

// sign is one that waits for the number behind it.
type sign struct {
	text  string
	level int
}

// expr takes all that is left, and leaves its number alone; false, if it is no expr.
func (x *reckoner) expr() bool {
	for x.operand() {
		t := x.token()
		for t == ")" && x.close() {
			t = x.token()
		}
		if t == "" {
			x.reckon(compare)
			// What waits still is a ( that has no ).
			return len(x.signs) == 0
		}
		if !x.between(t) {
			return false
		}
	}
	return false
}

// operand takes what stands ahead of digits or a name, and these; false, if another token stands there.
func (x *reckoner) operand() bool {
	for {
		t := x.token()
		switch {
		case t == "-", t == "!":
			x.wait(t, unary)
		case t == "(":
			x.wait(t, none)
		case digits(t):
			x.put(Num(t))
			return true
		case glyph.Name(t):
			x.put(x.names.of(t))
			return true
		default:
			return false
		}
	}
}

// close reckons what stands behind the last ( that waits; false, if none does.
func (x *reckoner) close() bool {
	x.reckon(compare)
	if len(x.signs) == 0 {
		return false
	}
	x.pop()
	return true
}

// between has a sign between two numbers wait for the second one; false, if it is none, or a comparison behind another.
func (x *reckoner) between(t string) bool {
	l := level(t)
	if l == none {
		return false
	}
	// A comparison is not reckoned ahead of another one, and so is still there.
	x.reckon(max(l, sum))
	if x.last() == l {
		return false
	}
	x.wait(t, l)
	return true
}

// reckon reckons the last signs, as long as they bind that tightly.
func (x *reckoner) reckon(l int) {
	for x.last() >= l {
		s, b := x.pop(), x.take()
		if s.level == unary {
			x.put(one(s.text, b))
		} else {
			x.put(two(s.text, x.take(), b))
		}
	}
}

// last is how tightly the last sign binds.
func (x *reckoner) last() int {
	if len(x.signs) == 0 {
		return none
	}
	return x.signs[len(x.signs)-1].level
}

// wait has a sign wait.
func (x *reckoner) wait(t string, l int) { x.signs = append(x.signs, sign{t, l}) }

// pop takes the last sign.
func (x *reckoner) pop() sign {
	s := x.signs[len(x.signs)-1]
	x.signs = x.signs[:len(x.signs)-1]
	return s
}

// put has a number wait; not ok: there is none, and what stands in its place does not matter.
func (x *reckoner) put(n int64, ok bool) {
	x.nums = append(x.nums, n)
	x.bad = x.bad || !ok
}

// take takes the last number.
func (x *reckoner) take() int64 {
	n := x.nums[len(x.nums)-1]
	x.nums = x.nums[:len(x.nums)-1]
	return n
}
