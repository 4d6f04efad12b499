package lattice_test

import (
	"testing"

	"lattice/api"
	"lattice/lattice"
)

var members = []struct {
	n    int
	rows table
	v    []int
	want bool
	e    api.Errno
}{
	// the document's examples
	{2, table{{3, 1}, {1, 3}}, []int{2, -2}, true, api.OK},
	{2, table{{3, 1}, {1, 3}}, []int{2, 0}, false, api.OK},

	{1, table{{6}, {10}}, []int{-4}, true, api.OK},
	{1, table{{6}, {10}}, []int{-3}, false, api.OK},
	{1, table{{7}}, []int{511}, true, api.OK},
	{1, table{{7}}, []int{510}, false, api.OK},
	{1, table{{-511}}, []int{511}, true, api.OK},
	{1, table{{-511}}, []int{-511}, true, api.OK},

	// the zero vector is in every lattice, and alone in that of no rows
	{1, nil, []int{0}, true, api.OK},
	{1, nil, []int{1}, false, api.OK},
	{3, table{{0, 0, 0}}, []int{0, 0, 0}, true, api.OK},
	{3, table{{0, 0, 0}}, []int{0, 0, -1}, false, api.OK},
	{3, table{{4, -2, 3}}, []int{0, 0, 0}, true, api.OK},

	// fewer rows in the basis than the width
	{3, table{{4, -2, 3}}, []int{-8, 4, -6}, true, api.OK},
	{3, table{{4, -2, 3}}, []int{-8, 4, -5}, false, api.OK},
	{3, table{{4, -2, 3}}, []int{2, -1, 1}, false, api.OK},
	{3, table{{1, 0, 0}, {0, 0, 1}}, []int{5, 0, -7}, true, api.OK},
	{3, table{{1, 0, 0}, {0, 0, 1}}, []int{5, 1, -7}, false, api.OK},
	{3, table{{0, 1, 0}, {0, 0, 5}}, []int{0, 7, -505}, true, api.OK},
	{3, table{{0, 1, 0}, {0, 0, 5}}, []int{1, 0, 0}, false, api.OK},

	// numbers in between that are greater than those that go in
	{3, table{{1, 510, 0}, {0, 511, 0}, {0, 0, 511}}, []int{511, -511, 511}, true, api.OK},
	{3, table{{1, 0, 511}, {0, 1, -511}}, []int{511, 511, 0}, true, api.OK},
	{3, table{{1, 0, 511}, {0, 1, -511}}, []int{511, -511, 0}, false, api.OK},

	// wrong widths, rows and vectors
	{0, nil, nil, false, api.ErrWidth},
	{0, nil, []int{}, false, api.ErrWidth},
	{4, nil, []int{0, 0, 0, 0}, false, api.ErrWidth},
	{-1, nil, nil, false, api.ErrWidth},
	{1, nil, nil, false, api.ErrVector},
	{2, nil, []int{0}, false, api.ErrVector},
	{2, nil, []int{0, 0, 0}, false, api.ErrVector},
	{3, nil, []int{0, 0, 512}, false, api.ErrVector},
	{3, nil, []int{-512, 0, 0}, false, api.ErrVector},
	{3, nil, []int{-511, 511, -511}, false, api.OK},
	{1, table{{512}}, []int{0}, false, api.ErrVector},
	{1, table{{-512}}, []int{0}, false, api.ErrVector},
	{2, table{{1, 2, 3}}, []int{0, 0}, false, api.ErrVector},
	{1, table{{1}, {1}, {1}, {1}, {1}, {1}}, []int{1}, true, api.OK},
	{1, table{{1}, {1}, {1}, {1}, {1}, {1}, {1}}, []int{1}, false, api.ErrVector},
	{2, table{{511, 510}, {510, 511}}, []int{0, 0}, false, api.ErrBound},
	{2, table{{511, 510}, {510, 511}}, []int{511, 510}, false, api.ErrBound},

	// several errors: the one named first
	{4, table{{512}}, []int{512}, false, api.ErrWidth},
	{2, table{{511, 510}, {510, 511}}, []int{0, 512}, false, api.ErrVector},
	{2, table{{511, 510}, {510, 511}}, nil, false, api.ErrVector},
	{2, table{{511, 510}, {510, 511}, {1}}, []int{0, 0}, false, api.ErrVector},
}

func TestP4Has(t *testing.T) {
	for _, c := range members {
		got, e := lattice.Has(c.n, c.rows, c.v)
		if got != c.want || e != c.e {
			t.Errorf("P4: Has(%d, %v, %v) = %v, %d, want %v, %d", c.n, c.rows, c.v, got, e, c.want, c.e)
		}
	}
}

// Whatever two small rows make by sums of multiples is in, and nothing else.
func TestP4HasAgainstAllSums(t *testing.T) {
	const most, reach, times = 2, 4, 24 // by Cramer's rule no multiple above 2*2*4 is called for
	d := &dice{3}
	for i := 0; i < 400; i++ {
		p := []int{d.within(most), d.within(most)}
		q := []int{d.within(most), d.within(most)}
		var in [2*reach + 1][2*reach + 1]bool
		for a := -times; a <= times; a++ {
			for b := -times; b <= times; b++ {
				x, y := a*p[0]+b*q[0], a*p[1]+b*q[1]
				if x >= -reach && x <= reach && y >= -reach && y <= reach {
					in[x+reach][y+reach] = true
				}
			}
		}
		for x := -reach; x <= reach; x++ {
			for y := -reach; y <= reach; y++ {
				got, e := lattice.Has(2, table{p, q}, []int{x, y})
				if e != api.OK || got != in[x+reach][y+reach] {
					t.Fatalf("P4: Has(2, %v %v, %d %d) = %v, %d", p, q, x, y, got, e)
				}
			}
		}
	}
}

func TestP4HasAgainstNumbersWithoutBound(t *testing.T) {
	d := &dice{4}
	in, out, tooGreat := 0, 0, 0
	for i := 0; i < 20000; i++ {
		n := 1 + d.below(3)
		rows := throw(d, n)
		v := make([]int, n)
		for _, r := range rows {
			a := d.within(2)
			for j := range v {
				if x := v[j] + a*r[j]; x <= 511 && x >= -511 {
					v[j] = x
				}
			}
		}
		_, fits := fitting(canonical(n, rows))
		want := fits && holds(n, rows, v)
		got, e := lattice.Has(n, rows, v)
		if got != want || (e == api.OK) != fits || !fits && e != api.ErrBound {
			t.Fatalf("P4: Has(%d, %v, %v) = %v, %d, want %v", n, rows, v, got, e, want)
		}
		switch {
		case !fits:
			tooGreat++
		case want:
			in++
		default:
			out++
		}
	}
	if in < 1000 || out < 300 || tooGreat < 1000 {
		t.Errorf("the dice are loaded: %d in, %d out, %d too great", in, out, tooGreat)
	}
}
