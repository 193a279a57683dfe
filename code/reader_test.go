package code

import (
	"math"
	"strings"
	"testing"
)

const anything = 1<<64 - 1

// over asks that nothing is read any more.
func over(t *testing.T, what string, r *Reader) {
	t.Helper()
	for range 2 {
		if r.Ok() || r.Left() != 0 || r.Num(anything) != 0 || r.Num(0) != 0 || r.Int() != 0 || r.Text(1) != "" || r.Text(0) != "" || r.Text(-1) != "" {
			t.Errorf("%q: %#v", what, r)
		}
	}
}

// Promise 12.1: each number is read from its bytes, and no more than these.
func TestReadNum(t *testing.T) {
	for _, c := range told {
		for _, behind := range []string{"", "\x00", "\x01", "\x7f", "\x80", "\xff\xff", "ab"} {
			for _, most := range []uint64{c.n, max(c.n, anything-1), anything} {
				r := New(c.s + behind)
				if got := r.Num(most); got != c.n || !r.Ok() || r.Left() != len(behind) {
					t.Errorf("%x %x, %d: %d %v %d", c.s, behind, most, got, r.Ok(), r.Left())
				}
				if got := r.Text(len(behind)); got != behind || !r.Ok() {
					t.Errorf("%x %x: %x %v", c.s, behind, got, r.Ok())
				}
			}
		}
	}
}

// Promise 12.1: a number above most is none.
func TestReadAbove(t *testing.T) {
	for _, c := range told {
		if c.n == 0 {
			continue
		}
		for _, most := range []uint64{0, c.n / 2, c.n - 1} {
			r := New(c.s + "\x01\x01")
			if got := r.Num(most); got != 0 {
				t.Error(c.n, most, got)
			}
			over(t, "above", r)
		}
	}
}

// Promise 12.1: a number that lacks is none: nothing at all, and each beginning.
func TestReadLacks(t *testing.T) {
	for _, c := range told {
		for n := range len(c.s) {
			r := New(c.s[:n])
			if !r.Ok() || r.Left() != n {
				t.Error(n, r)
			}
			if got := r.Num(anything); got != 0 {
				t.Errorf("%x: %d", c.s[:n], got)
			}
			over(t, "lacks", r)
		}
	}
}

// Promise 12.1: a number in another form is none.
func TestReadOtherForm(t *testing.T) {
	forms := []string{
		"\x80\x00", "\x81\x00", "\xff\x00", "\x80\x80\x00", "\xff\xff\x00", "\x80\x81\x00",
		strings.Repeat("\x80", 9) + "\x00",
		strings.Repeat("\xff", 9) + "\x00",
		// Numbers of 2^64 and above.
		strings.Repeat("\x80", 9) + "\x02",
		strings.Repeat("\x80", 9) + "\x03",
		strings.Repeat("\x80", 9) + "\x7f",
		strings.Repeat("\xff", 9) + "\x02",
		strings.Repeat("\xff", 9) + "\x03",
		strings.Repeat("\xff", 9) + "\x7f",
		strings.Repeat("\x80", 9) + "\x40",
		strings.Repeat("\x80", 10) + "\x00",
		strings.Repeat("\x80", 10) + "\x01",
		strings.Repeat("\xff", 9) + "\x81\x00",
		strings.Repeat("\xff", 9) + "\x81\x01",
		strings.Repeat("\xff", 10) + "\x01",
		strings.Repeat("\x80", 100) + "\x01",
		strings.Repeat("\x80", 100) + "\x00",
		strings.Repeat("\xff", 100),
	}
	for _, c := range told {
		if last := len(c.s) - 1; len(c.s) < 10 {
			forms = append(forms, c.s[:last]+string([]byte{c.s[last] + 128, 0}))
		}
	}
	for _, s := range forms {
		r := New(s + "\x01\x01")
		if got := r.Num(anything); got != 0 {
			t.Errorf("%x: %d", s, got)
		}
		over(t, "other form "+s, r)
		r = New(s + "\x01\x01")
		if got := r.Int(); got != 0 {
			t.Errorf("%x: %d", s, got)
		}
		over(t, "other form "+s, r)
	}
}

// Promise 12.1: all bytes, and all two of them: a number just if they are its own bytes.
func TestReadShort(t *testing.T) {
	for a := range 256 {
		one := string([]byte{byte(a)})
		r := New(one)
		if n := r.Num(anything); r.Ok() != (a < 128) || a < 128 && n != uint64(a) {
			t.Error(a, n, r.Ok())
		}
		for b := range 256 {
			r := New(one + string([]byte{byte(b)}))
			n := r.Num(anything)
			switch {
			case a < 128:
				if n != uint64(a) || !r.Ok() || r.Left() != 1 {
					t.Error(a, b, n, r.Ok(), r.Left())
				}
			case b > 0 && b < 128:
				if n != uint64(a-128+128*b) || !r.Ok() || r.Left() != 0 {
					t.Error(a, b, n, r.Ok(), r.Left())
				}
			case n != 0 || r.Ok() || r.Left() != 0:
				t.Error(a, b, n, r.Ok(), r.Left())
			}
		}
	}
}

// Promise 12.1: Int.
func TestReadInt(t *testing.T) {
	numbers := []int64{0, -1, 1, -2, 2, 63, -64, 64, -65, 300, 1 << 40, -1 << 40, math.MaxInt64, math.MinInt64, math.MinInt64 + 1}
	var s string
	for _, n := range numbers {
		s += Num(Sign(n))
	}
	r := New(s)
	for _, n := range numbers {
		if got := r.Int(); got != n || !r.Ok() {
			t.Error(n, got, r.Ok())
		}
	}
	if r.Left() != 0 || !r.Ok() {
		t.Error(r.Left(), r.Ok())
	}
	if got := r.Int(); got != 0 {
		t.Error(got)
	}
	over(t, "behind all", r)
}

// Promise 12.1: Text takes so many bytes, whatever they are; one that lacks is none.
func TestReadText(t *testing.T) {
	const s = "\x00\xffab\x80\xc3\xa9"
	for n := range len(s) + 1 {
		r := New(s)
		if got := r.Text(n); got != s[:n] || !r.Ok() || r.Left() != len(s)-n {
			t.Errorf("%d: %q %v %d", n, got, r.Ok(), r.Left())
		}
		if got := r.Text(r.Left()); got != s[n:] || !r.Ok() || r.Left() != 0 {
			t.Errorf("%d: %q %v %d", n, got, r.Ok(), r.Left())
		}
		if got := r.Text(0); got != "" || !r.Ok() {
			t.Errorf("%d: %q %v", n, got, r.Ok())
		}
		for _, beyond := range []int{len(s) - n + 1, len(s) + 1, 1 << 40, math.MaxInt, -1, math.MinInt} {
			r := New(s)
			r.Text(n)
			if got := r.Text(beyond); got != "" {
				t.Errorf("%d: %q", beyond, got)
			}
			over(t, "beyond", r)
		}
	}
}

// Promise 12.1: one behind the other, of each kind; Left goes down as they are taken, and what is bad among them ends it all.
func TestReadInTurn(t *testing.T) {
	r := New("\x02ab\xac\x02\x03\x00!")
	if r.Left() != 8 || !r.Ok() {
		t.Error(r)
	}
	if s := r.Text(int(r.Num(2))); s != "ab" || r.Left() != 5 {
		t.Error(s, r.Left())
	}
	if n := r.Num(300); n != 300 || r.Left() != 3 {
		t.Error(n, r.Left())
	}
	if n := r.Int(); n != -2 || r.Left() != 2 {
		t.Error(n, r.Left())
	}
	if n := r.Num(0); n != 0 || r.Left() != 1 || !r.Ok() {
		t.Error(n, r.Left(), r.Ok())
	}
	if n := r.Num('!' - 1); n != 0 {
		t.Error(n)
	}
	over(t, "in turn", r)
}

// Promise 12.1, R1: nothing is read of nothing.
func TestReadNothing(t *testing.T) {
	r := New("")
	if !r.Ok() || r.Left() != 0 || r.Text(0) != "" || !r.Ok() {
		t.Error(r)
	}
	r.Num(anything)
	over(t, "nothing", r)
	r = New("")
	r.Int()
	over(t, "nothing", r)
	var none *Reader
	over(t, "nil", none)
}

// R2: readers of the same bytes are each by themselves.
func TestReadersApart(t *testing.T) {
	const s = "\x01\x02\x03"
	a, b := New(s), New(s)
	a.Num(0)
	if n := b.Num(1); n != 1 || !b.Ok() || b.Left() != 2 || a.Ok() {
		t.Error(n, a, b)
	}
}
