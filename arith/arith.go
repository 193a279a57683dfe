// Package arith is layer 1: see shared/doc/01-arith.md.
package arith

import (
	"math"
	"math/bits"

	"distaff/api"
)

// Binary tells whether an operation is one of two numbers.
func Binary(op int) bool {
	return op >= api.OpAdd && op <= api.OpUshr || op >= api.OpEq && op <= api.OpUlt
}

// Unary tells whether an operation is one of one number.
func Unary(op int) bool {
	return op == api.OpNeg || op == api.OpNot || op == api.OpFlip
}

// Compares tells whether an operation says yes or no.
func Compares(op int) bool {
	return op >= api.OpEq && op <= api.OpFlip
}

// Do is what an operation makes of two numbers; false: it is none, or nothing can be divided by 0.
func Do(op int, a, b int64) (int64, bool) {
	switch op {
	case api.OpAdd:
		return a + b, true
	case api.OpSub:
		return a - b, true
	case api.OpMul:
		return a * b, true
	case api.OpDiv, api.OpRem:
		return divide(op, a, b)
	case api.OpAnd:
		return a & b, true
	case api.OpOr:
		return a | b, true
	case api.OpXor:
		return a ^ b, true
	case api.OpShl:
		return a << places(b), true
	case api.OpShr:
		return a >> places(b), true
	case api.OpUshr:
		return int64(uint64(a) >> places(b)), true
	}
	return compare(op, a, b)
}

// One is what an operation makes of one number; false: it is none.
func One(op int, a int64) (int64, bool) {
	switch op {
	case api.OpNeg:
		return -a, true
	case api.OpNot:
		return ^a, true
	case api.OpFlip:
		return bit(a == 0), true
	}
	return 0, false
}

// divide leans on Go's own division, which makes of the least number and -1 just what is asked here: the least number and 0.
func divide(op int, a, b int64) (int64, bool) {
	if b == 0 {
		return 0, false
	}
	if op == api.OpDiv {
		return a / b, true
	}
	return a % b, true
}

// places is by how many places a number shifts: Go would shift everything out from 64 on, and panic below 0.
func places(b int64) uint {
	return uint(b & 63)
}

func compare(op int, a, b int64) (int64, bool) {
	switch op {
	case api.OpEq:
		return bit(a == b), true
	case api.OpNe:
		return bit(a != b), true
	case api.OpLt:
		return bit(a < b), true
	case api.OpLe:
		return bit(a <= b), true
	case api.OpGt:
		return bit(a > b), true
	case api.OpGe:
		return bit(a >= b), true
	case api.OpUlt:
		return bit(uint64(a) < uint64(b)), true
	}
	return 0, false
}

func bit(yes bool) int64 {
	if yes {
		return 1
	}
	return 0
}

// Turned is the operation that says the same of two numbers that change places; false: there is none.
func Turned(op int) (int, bool) {
	switch op {
	case api.OpAdd, api.OpMul, api.OpAnd, api.OpOr, api.OpXor, api.OpEq, api.OpNe:
		return op, true
	case api.OpLt:
		return api.OpGt, true
	case api.OpLe:
		return api.OpGe, true
	case api.OpGt:
		return api.OpLt, true
	case api.OpGe:
		return api.OpLe, true
	}
	return 0, false
}

// Against is the comparison that says the opposite; false: there is none.
func Against(op int) (int, bool) {
	switch op {
	case api.OpEq:
		return api.OpNe, true
	case api.OpNe:
		return api.OpEq, true
	case api.OpLt:
		return api.OpGe, true
	case api.OpLe:
		return api.OpGt, true
	case api.OpGt:
		return api.OpLe, true
	case api.OpGe:
		return api.OpLt, true
	}
	return 0, false
}

// Fits tells whether a number is one of so many bits, with its sign.
func Fits(n int64, width int) bool {
	return width >= 1 && Extend(n, width) == n
}

// Extend is the number that the lowest so many bits say, with a sign.
func Extend(n int64, width int) int64 {
	if width < 1 {
		return 0
	}
	if width >= 64 {
		return n
	}
	above := uint(64 - width)
	return n << above >> above
}

// Power tells whether a number is a power of two, and which.
func Power(n int64) (int, bool) {
	// The least number has a single bit, too, but it is below 0.
	if n <= 0 || n&(n-1) != 0 {
		return 0, false
	}
	return bits.TrailingZeros64(uint64(n)), true
}

// Sum is a sum, if it is one of 64 bits.
func Sum(a, b int64) (int64, bool) {
	s := a + b
	// It goes round just where both have one sign, and the sum has the other one.
	return s, (a^s)&(b^s) >= 0
}

// Product is a product, if it is one of 64 bits.
func Product(a, b int64) (int64, bool) {
	if a == 0 || b == 0 {
		return 0, true
	}
	p := a * b
	// Dividing back can't tell that the least number times -1 went round: the quotient goes round, too.
	if a == -1 || b == -1 {
		return p, p != math.MinInt64
	}
	return p, p/b == a
}

// Gcd is the greatest number that divides both (without their signs); 0 of two noughts.
func Gcd(a, b int64) uint64 {
	x, y := size(a), size(b)
	for y != 0 {
		x, y = y, x%y
	}
	return x
}

// size is a number without its sign; of the least number that has no place among those with a sign.
func size(n int64) uint64 {
	if n < 0 {
		return -uint64(n)
	}
	return uint64(n)
}
