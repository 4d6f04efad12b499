package lattice_test

import (
	"testing"

	"lattice/api"
	"lattice/lattice"
)

const (
	greatest = int(^uint(0) >> 1)
	least    = -greatest - 1
)

func wildRows() []table {
	one := []int{1}
	many := make(table, 100000)
	for i := range many {
		many[i] = one
	}
	return []table{
		nil, {}, {nil}, {{}}, {nil, {}, nil}, many, make(table, 7), make(table, 100000),
		{{greatest}}, {{least}}, {{greatest, least}, {least, greatest}}, {{least, least, least}}, {{greatest, greatest, greatest}, {1, 2, 3}},
		{make([]int, 100000)}, {{1, 2, 3}, make([]int, 100000)}, {{0}}, {{0, 0}}, {{0, 0, 0}}, {{1}}, {{1, 2}}, {{1, 2, 3}}, {{1, 2, 3, 4}},
		{{511, 510}, {510, 511}}, {{511, 1, 0}, {0, 511, 1}, {1, 0, 511}},
	}
}

// P1: every call ends and none panics; with an error all else is nil, 0, false.
func TestP1AnyInput(t *testing.T) {
	widths := []int{least, -511, -1, 0, 1, 2, 3, 4, 5, 511, greatest}
	vectors := [][]int{nil, {}, {0}, {1}, {0, 0}, {1, 2}, {0, 0, 0}, {1, 2, 3}, {0, 0, 0, 0}, {greatest}, {least}, {least, greatest}, {greatest, least, 0}, make([]int, 100000)}
	for _, n := range widths {
		for _, rows := range wildRows() {
			b, e := lattice.Basis(n, rows)
			if e != api.OK && b != nil {
				t.Errorf("P1: Basis(%d, ...) = %v beside %d", n, b, e)
			}
			if (e == api.ErrWidth) != (n < 1 || n > 3) {
				t.Errorf("P3: Basis(%d, ...) has error %d", n, e)
			}
			m, f := lattice.Index(n, rows)
			if f != e || e != api.OK && m != 0 {
				t.Errorf("P5: Index(%d, ...) = %d, %d, where Basis has error %d", n, m, f, e)
			}
			for _, v := range vectors {
				y, g := lattice.Has(n, rows, v)
				if g != api.OK && y {
					t.Errorf("P1: Has(%d, ..., %d entries) is true beside %d", n, len(v), g)
				}
				if g != hasError(n, v, e) {
					t.Errorf("P4: Has(%d, ..., %d entries) has error %d, where Basis has %d", n, len(v), g, e)
				}
			}
		}
	}
}

// hasError tells the error of Has from that of Basis.
func hasError(n int, v []int, e api.Errno) api.Errno {
	if e == api.ErrWidth || e == api.ErrVector {
		return e
	}
	if len(v) != n {
		return api.ErrVector
	}
	for _, x := range v {
		if x > 511 || x < -511 {
			return api.ErrVector
		}
	}
	return e
}
