package lattice_test

import (
	"testing"

	"lattice/api"
	"lattice/lattice"
)

var indices = []struct {
	n    int
	rows table
	want int
	e    api.Errno
}{
	// the document's examples
	{2, table{{3, 1}, {1, 3}}, 8, api.OK},
	{3, table{{1, 0, 0}, {0, 1, 0}}, 0, api.OK},

	{1, table{{-12}, {18}}, 6, api.OK},
	{1, table{{1}}, 1, api.OK},
	{1, table{{-511}}, 511, api.OK},
	{2, table{{511, 0}, {0, 511}}, 261121, api.OK},
	{3, table{{511, 0, 0}, {0, 511, 0}, {0, 0, 511}}, 133432831, api.OK},
	{3, table{{4, 2, 2}, {0, 4, 2}, {2, 0, 4}}, 56, api.OK},
	{3, table{{1, 0, 0}, {0, 1, 0}, {0, 0, 1}, {511, 511, 511}}, 1, api.OK},

	// fewer rows in the basis than the width, whichever column has no pivot
	{1, nil, 0, api.OK},
	{2, nil, 0, api.OK},
	{3, nil, 0, api.OK},
	{3, table{{0, 0, 0}}, 0, api.OK},
	{2, table{{5, 0}}, 0, api.OK},
	{2, table{{0, 5}}, 0, api.OK},
	{2, table{{4, 2}, {6, 3}}, 0, api.OK},
	{3, table{{1, 0, 0}, {0, 0, 1}}, 0, api.OK},
	{3, table{{0, 1, 0}, {0, 0, 1}}, 0, api.OK},
	{3, table{{1, 2, 3}, {4, 5, 6}, {5, 7, 9}}, 0, api.OK},

	// the error of Basis
	{0, nil, 0, api.ErrWidth},
	{4, table{{1, 2, 3, 4}}, 0, api.ErrWidth},
	{-1, nil, 0, api.ErrWidth},
	{3, table{{1, 2}}, 0, api.ErrVector},
	{1, table{{512}}, 0, api.ErrVector},
	{1, table{{-512}}, 0, api.ErrVector},
	{1, table{{1}, {1}, {1}, {1}, {1}, {1}}, 1, api.OK},
	{1, table{{1}, {1}, {1}, {1}, {1}, {1}, {1}}, 0, api.ErrVector},
	{2, table{{511, 510}, {510, 511}}, 0, api.ErrBound},
	{2, table{{1, 255}, {1, -256}}, 511, api.OK},
	{2, table{{1, 256}, {1, -256}}, 0, api.ErrBound},
	{4, table{{512}}, 0, api.ErrWidth},
	{2, table{{511, 510}, {510, 511}, {512, 0}}, 0, api.ErrVector},
}

func TestP5Index(t *testing.T) {
	for _, c := range indices {
		got, e := lattice.Index(c.n, c.rows)
		if got != c.want || e != c.e {
			t.Errorf("P5: Index(%d, %v) = %d, %d, want %d, %d", c.n, c.rows, got, e, c.want, c.e)
		}
	}
}

// With D for the rows' determinant, D times any vector is in the lattice: so
// the D*D vectors modulo D fall into as many kinds as Index tells, each with as
// many vectors as there are sums of the rows modulo D.
func TestP5IndexCounts(t *testing.T) {
	d := &dice{5}
	for i := 0; i < 500; i++ {
		p := []int{d.within(4), d.within(4)}
		q := []int{d.within(4), d.within(4)}
		size := p[0]*q[1] - p[1]*q[0]
		if size < 0 {
			size = -size
		}
		want := 0
		if size != 0 {
			seen := map[[2]int]bool{}
			for a := 0; a < size; a++ {
				for b := 0; b < size; b++ {
					x, y := (a*p[0]+b*q[0])%size, (a*p[1]+b*q[1])%size
					seen[[2]int{(x + size) % size, (y + size) % size}] = true
				}
			}
			want = size * size / len(seen)
		}
		if got, e := lattice.Index(2, table{p, q}); got != want || e != api.OK {
			t.Fatalf("P5: Index(2, %v %v) = %d, %d, want %d", p, q, got, e, want)
		}
	}
}
