package code

import (
	"math"
	"math/big"
	"math/rand"
	"testing"

	"distaff/api"
)

// Promise 12.2: the limits are those of the chapter.
func TestLimits(t *testing.T) {
	if api.MostBytes != 1<<20 || api.MostIns != 1<<17 || api.MostBlocks != 1<<16 {
		t.Error(api.MostBytes, api.MostIns, api.MostBlocks)
	}
}

// told is numbers and their bytes, as the chapter's words tell them.
var told = []struct {
	n uint64
	s string
}{
	{0, "\x00"},
	{1, "\x01"},
	{2, "\x02"},
	{127, "\x7f"},
	{128, "\x80\x01"},
	{129, "\x81\x01"},
	{255, "\xff\x01"},
	{256, "\x80\x02"},
	{300, "\xac\x02"}, // the chapter's example
	{1<<14 - 1, "\xff\x7f"},
	{1 << 14, "\x80\x80\x01"},
	{1<<14 + 1, "\x81\x80\x01"},
	{1<<21 - 1, "\xff\xff\x7f"},
	{1 << 21, "\x80\x80\x80\x01"},
	{1<<28 - 1, "\xff\xff\xff\x7f"},
	{1 << 28, "\x80\x80\x80\x80\x01"},
	{1<<32 - 1, "\xff\xff\xff\xff\x0f"},
	{1<<35 - 1, "\xff\xff\xff\xff\x7f"},
	{1 << 35, "\x80\x80\x80\x80\x80\x01"},
	{1<<42 - 1, "\xff\xff\xff\xff\xff\x7f"},
	{1 << 42, "\x80\x80\x80\x80\x80\x80\x01"},
	{1<<49 - 1, "\xff\xff\xff\xff\xff\xff\x7f"},
	{1 << 49, "\x80\x80\x80\x80\x80\x80\x80\x01"},
	{1<<56 - 1, "\xff\xff\xff\xff\xff\xff\xff\x7f"},
	{1 << 56, "\x80\x80\x80\x80\x80\x80\x80\x80\x01"},
	{1<<63 - 1, "\xff\xff\xff\xff\xff\xff\xff\xff\x7f"},
	{1 << 63, "\x80\x80\x80\x80\x80\x80\x80\x80\x80\x01"},
	{1<<63 + 1, "\x81\x80\x80\x80\x80\x80\x80\x80\x80\x01"},
	{1<<64 - 2, "\xfe\xff\xff\xff\xff\xff\xff\xff\xff\x01"},
	{1<<64 - 1, "\xff\xff\xff\xff\xff\xff\xff\xff\xff\x01"},
}

// Promise 12.1: Num.
func TestNum(t *testing.T) {
	for _, c := range told {
		if got := Num(c.n); got != c.s {
			t.Errorf("%d: %x, not %x", c.n, got, c.s)
		}
	}
}

// parts is a number's bytes by another way: its digits by 128.
func parts(n uint64) string {
	left, base := new(big.Int).SetUint64(n), big.NewInt(128)
	var s []byte
	for {
		digit := new(big.Int)
		left.DivMod(left, base, digit)
		s = append(s, byte(digit.Int64()))
		if left.Sign() == 0 {
			return string(s)
		}
		s[len(s)-1] += 128
	}
}

// chanceNumber is a number of as many bits as chance has it.
func chanceNumber(r *rand.Rand) uint64 {
	return r.Uint64() >> r.Intn(64)
}

// Promise 12.1: each number has its bytes, and is read from them.
func TestNumByChance(t *testing.T) {
	r := rand.New(rand.NewSource(12))
	for range 20000 {
		n := chanceNumber(r)
		if got, want := Num(n), parts(n); got != want {
			t.Fatalf("%d: %x, not %x", n, got, want)
		}
		in := New(Num(n))
		if got := in.Num(n); got != n || !in.Ok() || in.Left() != 0 {
			t.Fatal(n, got, in.Ok(), in.Left())
		}
	}
}

// Promise 12.1: Sign, Unsign.
func TestSign(t *testing.T) {
	for _, c := range []struct {
		n int64
		s uint64
	}{
		{0, 0}, {-1, 1}, {1, 2}, {-2, 3}, {2, 4}, {-3, 5}, {63, 126}, {-64, 127}, {64, 128},
		{1 << 31, 1 << 32}, {-1 << 31, 1<<32 - 1},
		{1 << 62, 1 << 63}, {-1 << 62, 1<<63 - 1},
		{math.MaxInt64 - 1, 1<<64 - 4}, {math.MinInt64 + 1, 1<<64 - 3},
		{math.MaxInt64, 1<<64 - 2}, {math.MinInt64, 1<<64 - 1},
	} {
		if got := Sign(c.n); got != c.s {
			t.Errorf("%d: %d, not %d", c.n, got, c.s)
		}
		if got := Unsign(c.s); got != c.n {
			t.Errorf("%d: %d, not %d", c.s, got, c.n)
		}
	}
}

// Promise 12.1: 2 n, or -2 n - 1, reckoned without limits; Unsign goes back.
func TestSignByChance(t *testing.T) {
	r := rand.New(rand.NewSource(13))
	for range 20000 {
		s := chanceNumber(r)
		n := Unsign(s)
		want := new(big.Int).Mul(big.NewInt(n), big.NewInt(2))
		if n < 0 {
			want.Neg(want).Sub(want, big.NewInt(1))
		}
		if want.Cmp(new(big.Int).SetUint64(s)) != 0 || Sign(n) != s {
			t.Fatal(s, n, Sign(n), want)
		}
	}
}
