package lattice_test

import (
	"testing"

	"lattice/api"
	"lattice/lattice"
)

var bases = []struct {
	n    int
	rows table
	want table
	e    api.Errno
}{
	// the document's examples
	{2, table{{4, 2}, {6, 3}}, table{{2, 1}}, api.OK},
	{2, table{{3, 1}, {1, 3}}, table{{1, 3}, {0, 8}}, api.OK},
	{2, table{{0, -3}, {0, 5}}, table{{0, 1}}, api.OK},
	{3, table{{4, 2, 2}, {0, 4, 2}, {2, 0, 4}}, table{{2, 0, 4}, {0, 2, 8}, {0, 0, 14}}, api.OK},
	{3, table{{0, 2, -3}, {0, 4, 1}}, table{{0, 2, 4}, {0, 0, 7}}, api.OK},
	{3, table{{-3, 1, 0}, {6, -2, 4}, {0, 0, 6}}, table{{3, -1, 0}, {0, 0, 2}}, api.OK},
	{3, table{{4, -2, 3}}, table{{4, -2, 3}}, api.OK},
	{2, table{{0, 0}}, table{}, api.OK},
	{1, table{{6}, {10}, {15}}, table{{1}}, api.OK},
	{2, table{{511, 510}, {510, 511}}, nil, api.ErrBound},

	// no rows, and rows of noughts
	{1, nil, table{}, api.OK},
	{2, table{}, table{}, api.OK},
	{3, table{{0, 0, 0}, {0, 0, 0}}, table{}, api.OK},
	{3, table{{0, 0, 0}, {0, -5, 1}, {0, 0, 0}}, table{{0, 5, -1}}, api.OK},

	// fewer rows in the basis than the width, the pivots anywhere
	{3, table{{0, 0, -9}, {0, 0, 6}}, table{{0, 0, 3}}, api.OK},
	{3, table{{2, 7, 1}, {0, 0, 4}}, table{{2, 7, 1}, {0, 0, 4}}, api.OK},
	{3, table{{2, -7, -1}, {0, 0, 4}}, table{{2, -7, 3}, {0, 0, 4}}, api.OK},
	{3, table{{2, 4, 6}, {-3, -6, -9}}, table{{1, 2, 3}}, api.OK},

	// above a pivot: 0 or more, and below the pivot
	{2, table{{1, -1}, {0, 5}}, table{{1, 4}, {0, 5}}, api.OK},
	{2, table{{1, 5}, {0, 5}}, table{{1, 0}, {0, 5}}, api.OK},
	{2, table{{1, -5}, {0, 5}}, table{{1, 0}, {0, 5}}, api.OK},
	{3, table{{1, -1, 0}, {0, 3, -1}, {0, 0, 2}}, table{{1, 2, 1}, {0, 3, 1}, {0, 0, 2}}, api.OK},

	// entries 511 and 512
	{1, table{{511}}, table{{511}}, api.OK},
	{1, table{{-511}}, table{{511}}, api.OK},
	{1, table{{512}}, nil, api.ErrVector},
	{1, table{{-512}}, nil, api.ErrVector},
	{3, table{{511, -511, 511}}, table{{511, -511, 511}}, api.OK},
	{3, table{{1, 2, 512}}, nil, api.ErrVector},
	{3, table{{1, -512, 3}}, nil, api.ErrVector},
	{3, table{{1, 2, 3}, {1, 2, 3}, {0, 0, -512}}, nil, api.ErrVector},

	// 6 and 7 rows
	{2, table{{12, 0}, {0, 12}, {8, 0}, {0, 8}, {6, 0}, {0, 6}}, table{{2, 0}, {0, 2}}, api.OK},
	{1, table{{64}, {32}, {16}, {8}, {4}, {2}}, table{{2}}, api.OK},
	{1, table{{64}, {32}, {16}, {8}, {4}, {2}, {1}}, nil, api.ErrVector},
	{1, table{{0}, {0}, {0}, {0}, {0}, {0}, {0}}, nil, api.ErrVector},

	// just fits, and just does not: a pivot, and what is behind the last pivot
	{2, table{{1, 255}, {1, -256}}, table{{1, 255}, {0, 511}}, api.OK},
	{2, table{{1, 256}, {1, -256}}, nil, api.ErrBound},
	{3, table{{1, 1, 0}, {0, 1, -511}}, table{{1, 0, 511}, {0, 1, -511}}, api.OK},
	{3, table{{1, 1, 1}, {0, 1, -511}}, nil, api.ErrBound},
	{3, table{{1, 1, 0}, {0, 1, 511}}, table{{1, 0, -511}, {0, 1, 511}}, api.OK},
	{3, table{{1, 1, -1}, {0, 1, 511}}, nil, api.ErrBound},
	{3, table{{0, 1, 256}, {0, 1, -255}}, table{{0, 1, 256}, {0, 0, 511}}, api.OK},
	{3, table{{0, 1, 256}, {0, 1, -256}}, nil, api.ErrBound},
	{3, table{{511, 0, 0}, {0, 511, 0}, {0, 0, 511}}, table{{511, 0, 0}, {0, 511, 0}, {0, 0, 511}}, api.OK},

	// does not fit until the last row comes
	{2, table{{511, 510}, {510, 511}, {0, 7}}, table{{1, 0}, {0, 1}}, api.OK},
	{2, table{{511, 511}, {511, -511}, {0, 14}}, table{{511, 7}, {0, 14}}, api.OK},
	{3, table{{511, 510, 509}, {-508, 507, 506}, {505, -504, 503}, {1, 0, 0}, {0, 1, 0}, {0, 0, 1}}, table{{1, 0, 0}, {0, 1, 0}, {0, 0, 1}}, api.OK},
	{3, table{{511, 1, 0}, {0, 511, 1}, {1, 0, 511}}, nil, api.ErrBound},

	// wrong widths and rows of another width
	{0, nil, nil, api.ErrWidth},
	{0, table{{}}, nil, api.ErrWidth},
	{-1, nil, nil, api.ErrWidth},
	{4, nil, nil, api.ErrWidth},
	{4, table{{1, 2, 3, 4}}, nil, api.ErrWidth},
	{1, table{{}}, nil, api.ErrVector},
	{1, table{{1, 0}}, nil, api.ErrVector},
	{2, table{nil}, nil, api.ErrVector},
	{2, table{{1, 2}, {1}}, nil, api.ErrVector},
	{3, table{{1, 2, 3, 0}}, nil, api.ErrVector},

	// several errors: the one named first
	{4, table{{512}}, nil, api.ErrWidth},
	{0, table{{1}, {2}, {3}, {4}, {5}, {6}, {7}}, nil, api.ErrWidth},
	{2, table{{511, 510}, {510, 511}, {0, 512}}, nil, api.ErrVector},
	{2, table{{511, 510}, {510, 511}, {0}}, nil, api.ErrVector},
	{2, table{{511, 510}, {510, 511}, {0, 0}, {0, 0}, {0, 0}, {0, 0}, {0, 0}}, nil, api.ErrVector},
}

func TestP3Basis(t *testing.T) {
	for _, c := range bases {
		b, e := lattice.Basis(c.n, c.rows)
		if e != c.e || !same(b, c.want) || e != api.OK && b != nil {
			t.Errorf("P3: Basis(%d, %v) = %v, %d, want %v, %d", c.n, c.rows, b, e, c.want, c.e)
		}
	}
}

// Exact (P1): held against numbers without bound.
func TestP3BasisAgainstNumbersWithoutBound(t *testing.T) {
	d := &dice{1}
	fit, tooGreat := 0, 0
	for i := 0; i < 30000; i++ {
		n := 1 + d.below(3)
		rows := throw(d, n)
		want, fits := fitting(canonical(n, rows))
		b, e := lattice.Basis(n, rows)
		if fits && (e != api.OK || !same(b, want)) {
			t.Fatalf("P3: Basis(%d, %v) = %v, %d, want %v", n, rows, b, e, want)
		}
		if !fits && (e != api.ErrBound || b != nil) {
			t.Fatalf("P3: Basis(%d, %v) = %v, %d, want ErrBound", n, rows, b, e)
		}
		if fits {
			fit++
		} else {
			tooGreat++
		}
	}
	if fit < 1000 || tooGreat < 1000 {
		t.Errorf("the dice are loaded: %d fit, %d do not", fit, tooGreat)
	}
}

// Each lattice has just one canonical basis: it is the same in any order, with
// a row turned round, and of the basis itself.
func TestP3BasisIsOne(t *testing.T) {
	d := &dice{2}
	for i := 0; i < 5000; i++ {
		n := 1 + d.below(3)
		rows := throw(d, n)
		want, e := lattice.Basis(n, rows)
		if len(rows) < 2 {
			continue
		}
		a, b := d.below(len(rows)), d.below(len(rows))
		other := append(table{}, rows...)
		other[a], other[b] = other[b], other[a]
		turned := make([]int, n)
		for j := range turned {
			turned[j] = -other[0][j]
		}
		other[0] = turned
		if got, f := lattice.Basis(n, other); f != e || !same(got, want) {
			t.Fatalf("P3: Basis(%d, %v) = %v, %d, but of %v it is %v, %d", n, rows, want, e, other, got, f)
		}
		if e != api.OK {
			continue
		}
		if got, f := lattice.Basis(n, want); f != api.OK || !same(got, want) {
			t.Fatalf("P3: Basis(%d, %v) = %v, %d, want the same again", n, want, got, f)
		}
	}
}
