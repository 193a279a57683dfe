package arith

import (
	"math"
	"math/big"
	"testing"

	"distaff/api"
)

const (
	least    = math.MinInt64
	greatest = math.MaxInt64
)

// edges are numbers at which signs, widths, shifts and going round change.
func edges() []int64 {
	l := []int64{0, 1, 2, 3, 5, 6, 7, 10, 12, 18, 63, 64, 65, 100, 3037000499, 3037000500}
	for shift := 7; shift < 64; shift += 8 {
		l = append(l, 1<<shift-1, 1<<shift, 1<<shift+1)
	}
	l = append(l, 1<<31, 1<<32, 1<<62, 1<<62+1, greatest, greatest-1)
	for _, n := range l {
		l = append(l, -n)
	}
	return append(l, least, least+1)
}

func each(t *testing.T, check func(a, b int64) bool) {
	t.Helper()
	for _, a := range edges() {
		for _, b := range edges() {
			if !check(a, b) {
				t.Errorf("wrong of %d and %d", a, b)
				return
			}
		}
	}
}

func in(l []int, op int) bool {
	for _, x := range l {
		if x == op {
			return true
		}
	}
	return false
}

// The numbers of operations below stand as numbers, as the chapter tells them.
var (
	ofTwo    = []int{4, 5, 6, 7, 8, 9, 10, 11, 12, 13, 14, 17, 18, 19, 20, 21, 22, 23}
	ofOne    = []int{15, 16, 24}
	toOneBit = []int{17, 18, 19, 20, 21, 22, 23, 24}
)

// all are all operations' numbers, and numbers that are none.
func all() []int {
	l := []int{math.MinInt, -1 << 32, 1<<32 + api.OpAdd, 1<<8 + api.OpAdd, math.MaxInt}
	for op := -40; op <= 80; op++ {
		l = append(l, op)
	}
	return l
}

// Promise 1.1.

func TestKinds(t *testing.T) {
	for _, op := range all() {
		if Binary(op) != in(ofTwo, op) {
			t.Error("Binary", op)
		}
		if Unary(op) != in(ofOne, op) {
			t.Error("Unary", op)
		}
		if Compares(op) != in(toOneBit, op) {
			t.Error("Compares", op)
		}
	}
}

func TestDo(t *testing.T) {
	for _, x := range []struct {
		op         int
		a, b, want int64
	}{
		{api.OpAdd, 2, 3, 5},
		{api.OpAdd, greatest, 1, least},
		{api.OpAdd, least, least, 0},
		{api.OpSub, 2, 3, -1},
		{api.OpSub, least, 1, greatest},
		{api.OpSub, 0, least, least},
		{api.OpMul, -4, 5, -20},
		{api.OpMul, 1 << 62, 2, least},
		{api.OpMul, least, -1, least},
		{api.OpMul, 1 << 32, 1 << 32, 0},
		{api.OpDiv, 7, 2, 3},
		{api.OpDiv, -7, 2, -3},
		{api.OpDiv, 7, -2, -3},
		{api.OpDiv, -7, -2, 3},
		{api.OpDiv, 1, 2, 0},
		{api.OpDiv, -1, 2, 0},
		{api.OpDiv, least, -1, least},
		{api.OpDiv, least, 1, least},
		{api.OpDiv, greatest, -1, -greatest},
		{api.OpRem, 7, 2, 1},
		{api.OpRem, -7, 2, -1},
		{api.OpRem, 7, -2, 1},
		{api.OpRem, -7, -2, -1},
		{api.OpRem, least, -1, 0},
		{api.OpRem, least, greatest, -1},
		{api.OpRem, 6, 3, 0},
		{api.OpAnd, 12, 10, 8},
		{api.OpAnd, -1, 10, 10},
		{api.OpOr, 12, 10, 14},
		{api.OpOr, least, 1, least + 1},
		{api.OpXor, 12, 10, 6},
		{api.OpXor, -1, 0, -1},
		{api.OpShl, 3, 2, 12},
		{api.OpShl, 1, 63, least},
		{api.OpShl, 1, 64, 1},
		{api.OpShl, 1, 65, 2},
		{api.OpShl, 1, -1, least},
		{api.OpShl, 3, -64, 3},
		{api.OpShl, 3, least, 3},
		{api.OpShr, 12, 2, 3},
		{api.OpShr, -1, 63, -1},
		{api.OpShr, -8, 1, -4},
		{api.OpShr, -8, 64, -8},
		{api.OpShr, least, -1, -1},
		{api.OpShr, greatest, 62, 1},
		{api.OpUshr, 12, 2, 3},
		{api.OpUshr, -1, 63, 1},
		{api.OpUshr, -1, 64, -1},
		{api.OpUshr, -1, 1, greatest},
		{api.OpUshr, least, -1, 1},
		{api.OpUshr, -1, 0, -1},
	} {
		if n, ok := Do(x.op, x.a, x.b); !ok || n != x.want {
			t.Errorf("Do(%d, %d, %d): %d %t, not %d", x.op, x.a, x.b, n, ok, x.want)
		}
	}
}

func TestDoCompares(t *testing.T) {
	for _, x := range []struct {
		a, b int64
		want [7]int64 // of OpEq to OpUlt
	}{
		{1, 1, [7]int64{1, 0, 0, 1, 0, 1, 0}},
		{1, 2, [7]int64{0, 1, 1, 1, 0, 0, 1}},
		{2, 1, [7]int64{0, 1, 0, 0, 1, 1, 0}},
		{-1, 1, [7]int64{0, 1, 1, 1, 0, 0, 0}},
		{1, -1, [7]int64{0, 1, 0, 0, 1, 1, 1}},
		{-2, -1, [7]int64{0, 1, 1, 1, 0, 0, 1}},
		{least, greatest, [7]int64{0, 1, 1, 1, 0, 0, 0}},
		{greatest, least, [7]int64{0, 1, 0, 0, 1, 1, 1}},
		{least, least, [7]int64{1, 0, 0, 1, 0, 1, 0}},
		{0, least, [7]int64{0, 1, 0, 0, 1, 1, 1}},
	} {
		for i, want := range x.want {
			if n, ok := Do(api.OpEq+i, x.a, x.b); !ok || n != want {
				t.Errorf("Do(%d, %d, %d): %d %t, not %d", api.OpEq+i, x.a, x.b, n, ok, want)
			}
		}
	}
}

// round is what the lowest 64 bits of a number say, with a sign.
func round(n *big.Int) int64 {
	low := new(big.Int).And(n, new(big.Int).SetUint64(math.MaxUint64))
	return int64(low.Uint64())
}

func TestDoAgainstBig(t *testing.T) {
	each(t, func(a, b int64) bool {
		x, y := big.NewInt(a), big.NewInt(b)
		want := map[int]*big.Int{
			api.OpAdd: new(big.Int).Add(x, y),
			api.OpSub: new(big.Int).Sub(x, y),
			api.OpMul: new(big.Int).Mul(x, y),
			api.OpAnd: new(big.Int).And(x, y),
			api.OpOr:  new(big.Int).Or(x, y),
			api.OpXor: new(big.Int).Xor(x, y),
			api.OpShl: new(big.Int).Lsh(x, uint(b&63)),
			api.OpShr: new(big.Int).Rsh(x, uint(b&63)),
		}
		if b != 0 {
			want[api.OpDiv] = new(big.Int).Quo(x, y)
			want[api.OpRem] = new(big.Int).Rem(x, y)
		}
		for op, n := range want {
			if m, ok := Do(op, a, b); !ok || m != round(n) {
				return false
			}
		}
		return true
	})
}

func TestDoOfNone(t *testing.T) {
	for _, op := range all() {
		if in(ofTwo, op) {
			continue
		}
		if n, ok := Do(op, 7, 3); ok || n != 0 {
			t.Error("Do of", op, n, ok)
		}
	}
	for _, op := range []int{api.OpDiv, api.OpRem} {
		for _, a := range edges() {
			if n, ok := Do(op, a, 0); ok || n != 0 {
				t.Error("by 0", op, a, n, ok)
			}
		}
	}
}

func TestDoOfAll(t *testing.T) {
	each(t, func(a, b int64) bool {
		for _, op := range ofTwo {
			n, ok := Do(op, a, b)
			if ok != (b != 0 || op != api.OpDiv && op != api.OpRem) {
				return false
			}
			if Compares(op) && n != 0 && n != 1 {
				return false
			}
		}
		return true
	})
}

func TestOne(t *testing.T) {
	for _, x := range []struct {
		op      int
		a, want int64
	}{
		{api.OpNeg, 5, -5},
		{api.OpNeg, -5, 5},
		{api.OpNeg, 0, 0},
		{api.OpNeg, least, least},
		{api.OpNeg, greatest, least + 1},
		{api.OpNot, 0, -1},
		{api.OpNot, 5, -6},
		{api.OpNot, -1, 0},
		{api.OpNot, least, greatest},
		{api.OpFlip, 0, 1},
		{api.OpFlip, 1, 0},
		{api.OpFlip, 2, 0},
		{api.OpFlip, -1, 0},
		{api.OpFlip, least, 0},
		{api.OpFlip, 1 << 32, 0},
	} {
		if n, ok := One(x.op, x.a); !ok || n != x.want {
			t.Errorf("One(%d, %d): %d %t, not %d", x.op, x.a, n, ok, x.want)
		}
	}
	for _, op := range all() {
		if in(ofOne, op) {
			continue
		}
		if n, ok := One(op, 7); ok || n != 0 {
			t.Error("One of", op, n, ok)
		}
	}
}

// Promise 1.2.

func TestTurned(t *testing.T) {
	want := map[int]int{
		api.OpAdd: api.OpAdd, api.OpMul: api.OpMul,
		api.OpAnd: api.OpAnd, api.OpOr: api.OpOr, api.OpXor: api.OpXor,
		api.OpEq: api.OpEq, api.OpNe: api.OpNe,
		api.OpLt: api.OpGt, api.OpGt: api.OpLt,
		api.OpLe: api.OpGe, api.OpGe: api.OpLe,
	}
	for _, op := range all() {
		to, there := want[op]
		if n, ok := Turned(op); n != to || ok != there {
			t.Errorf("Turned(%d): %d %t, not %d %t", op, n, ok, to, there)
		}
	}
	each(t, func(a, b int64) bool {
		for op := range want {
			turned, _ := Turned(op)
			one, _ := Do(op, a, b)
			other, ok := Do(turned, b, a)
			if !ok || one != other {
				return false
			}
		}
		return true
	})
}

func TestAgainst(t *testing.T) {
	want := map[int]int{
		api.OpEq: api.OpNe, api.OpNe: api.OpEq,
		api.OpLt: api.OpGe, api.OpGe: api.OpLt,
		api.OpLe: api.OpGt, api.OpGt: api.OpLe,
	}
	for _, op := range all() {
		to, there := want[op]
		if n, ok := Against(op); n != to || ok != there {
			t.Errorf("Against(%d): %d %t, not %d %t", op, n, ok, to, there)
		}
	}
	each(t, func(a, b int64) bool {
		for op := range want {
			against, _ := Against(op)
			one, _ := Do(op, a, b)
			other, ok := Do(against, a, b)
			if !ok || one+other != 1 {
				return false
			}
		}
		return true
	})
}

// Promise 1.3.

var widths = []int{math.MinInt, -65, -64, -63, -1, 0, 1, 2, 7, 8, 9, 16, 31, 32, 33, 62, 63, 64, 65, 127, 128, 1 << 32, math.MaxInt}

func TestFits(t *testing.T) {
	for _, x := range []struct {
		n     int64
		width int
		want  bool
	}{
		{127, 8, true}, {128, 8, false}, {-128, 8, true}, {-129, 8, false}, {255, 8, false},
		{0, 1, true}, {-1, 1, true}, {1, 1, false}, {-2, 1, false},
		{1<<31 - 1, 32, true}, {1 << 31, 32, false}, {-1 << 31, 32, true}, {-1<<31 - 1, 32, false},
		{1<<62 - 1, 63, true}, {1 << 62, 63, false}, {-1 << 62, 63, true}, {least, 63, false},
		{greatest, 64, true}, {least, 64, true}, {least, 65, true}, {greatest, math.MaxInt, true},
		{0, 0, false}, {0, -1, false}, {0, math.MinInt, false}, {-1, 0, false},
	} {
		if Fits(x.n, x.width) != x.want {
			t.Errorf("Fits(%d, %d)", x.n, x.width)
		}
	}
	for _, width := range widths {
		for _, n := range edges() {
			if Fits(n, width) != fits(n, width) {
				t.Errorf("Fits(%d, %d)", n, width)
			}
		}
	}
}

// fits asks of the least and the greatest number of a width.
func fits(n int64, width int) bool {
	if width < 1 {
		return false
	}
	if width > 64 {
		width = 64
	}
	half := new(big.Int).Lsh(big.NewInt(1), uint(width-1))
	return big.NewInt(n).Cmp(half) < 0 && big.NewInt(n).Cmp(new(big.Int).Neg(half)) >= 0
}

func TestExtend(t *testing.T) {
	for _, x := range []struct {
		n     int64
		width int
		want  int64
	}{
		{255, 8, -1}, {127, 8, 127}, {128, 8, -128}, {256, 8, 0}, {-1, 8, -1}, {-129, 8, 127}, {0x1234, 8, 0x34},
		{1, 1, -1}, {2, 1, 0}, {3, 1, -1},
		{1 << 31, 32, -1 << 31}, {1<<31 - 1, 32, 1<<31 - 1}, {1<<32 + 7, 32, 7},
		{1 << 62, 63, -1 << 62}, {least, 63, 0},
		{greatest, 64, greatest}, {least, 64, least}, {least, 65, least}, {least, math.MaxInt, least},
		{greatest, 0, 0}, {-1, -1, 0}, {-1, math.MinInt, 0},
	} {
		if n := Extend(x.n, x.width); n != x.want {
			t.Errorf("Extend(%d, %d): %d, not %d", x.n, x.width, n, x.want)
		}
	}
	for _, width := range widths {
		for _, n := range edges() {
			got := Extend(n, width)
			if width < 1 {
				if got != 0 {
					t.Errorf("Extend(%d, %d): %d", n, width, got)
				}
				continue
			}
			if !fits(got, width) || (uint64(got)^uint64(n))<<uint(64-min(width, 64)) != 0 {
				t.Errorf("Extend(%d, %d): %d", n, width, got)
			}
		}
	}
}

func TestPower(t *testing.T) {
	powers := map[int64]int{}
	for which := 0; which < 63; which++ {
		n := int64(1) << which
		powers[n] = which
		if got, ok := Power(n); !ok || got != which {
			t.Errorf("Power(%d): %d %t", n, got, ok)
		}
	}
	for _, n := range append(edges(), -1<<62, -4, -2) {
		which, there := powers[n]
		if got, ok := Power(n); got != which || ok != there {
			t.Errorf("Power(%d): %d %t", n, got, ok)
		}
	}
}

func TestSumAndProduct(t *testing.T) {
	for _, x := range []struct {
		call    func(a, b int64) (int64, bool)
		a, b, n int64
		ok      bool
	}{
		{Sum, 2, 3, 5, true},
		{Sum, greatest, 1, least, false},
		{Sum, least, -1, greatest, false},
		{Sum, least, greatest, -1, true},
		{Sum, least, least, 0, false},
		{Sum, greatest, 0, greatest, true},
		{Product, -4, 5, -20, true},
		{Product, 1 << 62, 2, least, false},
		{Product, -1 << 62, 2, least, true},
		{Product, least, -1, least, false},
		{Product, -1, least, least, false},
		{Product, least, 1, least, true},
		{Product, 1, least, least, true},
		{Product, least, 0, 0, true},
		{Product, 0, least, 0, true},
		{Product, least, least, 0, false},
		{Product, 1 << 32, 1 << 32, 0, false},
		{Product, greatest, -1, -greatest, true},
		{Product, 3037000500, 3037000500, -9223372036709301616, false},
	} {
		if n, ok := x.call(x.a, x.b); n != x.n || ok != x.ok {
			t.Errorf("of %d and %d: %d %t, not %d %t", x.a, x.b, n, ok, x.n, x.ok)
		}
	}
	each(t, func(a, b int64) bool {
		sum := new(big.Int).Add(big.NewInt(a), big.NewInt(b))
		n, ok := Sum(a, b)
		return n == round(sum) && ok == sum.IsInt64()
	})
	each(t, func(a, b int64) bool {
		product := new(big.Int).Mul(big.NewInt(a), big.NewInt(b))
		n, ok := Product(a, b)
		return n == round(product) && ok == product.IsInt64()
	})
}

func TestGcd(t *testing.T) {
	for _, x := range []struct {
		a, b int64
		want uint64
	}{
		{0, 0, 0}, {0, 5, 5}, {5, 0, 5}, {0, -5, 5}, {-5, 0, 5},
		{12, 18, 6}, {-12, 18, 6}, {12, -18, 6}, {-12, -18, 6}, {7, 5, 1}, {1, least, 1},
		{least, 0, 1 << 63}, {0, least, 1 << 63}, {least, least, 1 << 63},
		{least, -1, 1}, {least, 12, 4}, {least, greatest, 1}, {greatest, greatest, greatest},
	} {
		if n := Gcd(x.a, x.b); n != x.want {
			t.Errorf("Gcd(%d, %d): %d, not %d", x.a, x.b, n, x.want)
		}
	}
	each(t, func(a, b int64) bool {
		x, y := new(big.Int).Abs(big.NewInt(a)), new(big.Int).Abs(big.NewInt(b))
		return Gcd(a, b) == new(big.Int).GCD(nil, nil, x, y).Uint64()
	})
}
