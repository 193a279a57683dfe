package dom

import (
	"slices"
	"testing"
)

// Of what is long it is asked, above all, that it ends soon: what goes over all blocks for each block would not.

// R1: a row of many blocks.
func TestLongRow(t *testing.T) {
	const many = 1 << 19
	to := make([][]int, many)
	for b := range many - 1 {
		to[b] = list(b + 1)
	}
	to[many-1] = list(many / 2)
	x := New(bare(to...))
	for b := range many {
		if x.Up(b) != b-1 {
			t.Fatal(b, x.Up(b))
		}
		var want []int
		if b >= many/2 {
			want = list(many / 2)
		}
		if got := x.Frontier(b); !slices.Equal(got, want) {
			t.Fatal(b, got)
		}
	}
	if !x.Over(0, many-1) || x.Over(many-1, 0) || x.Common(many-1, 3) != 3 || x.Common(3, many-1) != 3 {
		t.Error("wrong")
	}
}

// R1: many loops, each in the one ahead of it, that end where the one around goes on.
func TestLoopsInLoops(t *testing.T) {
	const many = 1 << 16
	to := make([][]int, 2*many)
	for b := range many {
		to[b] = list(b + 1)
		to[many+b] = list(many-1-b, many+b+1)
	}
	to[2*many-1] = list(0)
	x := New(bare(to...))
	for b := range 2 * many {
		if x.Up(b) != b-1 {
			t.Fatal(b, x.Up(b))
		}
	}
	for _, b := range list(0, 1, 2, 100, many-1) {
		var want []int
		for head := range b + 1 {
			want = append(want, head)
		}
		if got := x.Frontier(b); !slices.Equal(got, want) {
			t.Error(b, len(got))
		}
	}
}

// R1: many choices one behind the other, from each of which one can leave for the end.
func TestManyWaysOut(t *testing.T) {
	const many = 1 << 17
	to := make([][]int, 2*many+1)
	for b := range many {
		to[2*b] = list(2*b+1, 2*b+2)
		to[2*b+1] = list(2*b+2, 2*many)
	}
	x := New(bare(to...))
	for b := range many {
		up := 2*b - 2
		if b == 0 {
			up = -1
		}
		if x.Up(2*b) != up || x.Up(2*b+1) != 2*b {
			t.Fatal(b, x.Up(2*b), x.Up(2*b+1))
		}
		want := list(2*b+2, 2*many)
		if b == many-1 {
			want = list(2 * many)
		}
		if got := x.Frontier(2*b + 1); !slices.Equal(got, want) {
			t.Fatal(b, got)
		}
	}
	if x.Up(2*many) != 0 || x.Common(2*many, 2*many-1) != 0 {
		t.Error(x.Up(2*many), x.Common(2*many, 2*many-1))
	}
}

// R1: many blocks, each of which goes on and back, and which one can come to from the first one at both ends: nobody but the first one is over another.
func TestTangledLong(t *testing.T) {
	const many = 1 << 17
	to := make([][]int, many)
	to[0] = list(1, many-1)
	for b := 1; b < many; b++ {
		to[b] = list(max(b-1, 1), min(b+1, many-1))
	}
	x := New(bare(to...))
	for b := 1; b < many; b++ {
		if x.Up(b) != 0 {
			t.Fatal(b, x.Up(b))
		}
	}
	if kids := x.Kids(0); len(kids) != many-1 {
		t.Error(len(kids))
	}
	if got := x.Frontier(5); !slices.Equal(got, list(4, 6)) {
		t.Error(got)
	}
}

// R1: one block from which one comes to many, that all lead to one more, and back.
func TestManyKids(t *testing.T) {
	const many = 1 << 18
	to := make([][]int, many+2)
	for b := range many {
		to[0] = append(to[0], b+1)
		to[b+1] = list(many + 1)
	}
	to[many+1] = list(0)
	x := New(bare(to...))
	for b := 1; b < len(to); b++ {
		want := list(many + 1)
		if b == many+1 {
			want = list(0)
		}
		if got := x.Frontier(b); x.Up(b) != 0 || !slices.Equal(got, want) {
			t.Fatal(b, x.Up(b), got)
		}
	}
	if kids := x.Kids(0); !slices.Equal(kids, x.Order()[1:]) {
		t.Error(len(kids))
	}
}
