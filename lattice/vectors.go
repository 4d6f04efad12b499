package lattice

import (
	"lattice/api"
	"lattice/span"
)

// generated is the lattice of the rows, or the error of Basis.
func generated(n int, rows [][]int) (span.Span, api.Errno) {
	e := checkRows(n, rows)
	if e != api.OK {
		return span.Span{}, e
	}
	s := spanOf(rows)
	if !s.Fits() {
		return span.Span{}, api.ErrBound
	}
	return s, api.OK
}

func checkRows(n int, rows [][]int) api.Errno {
	if !isWidth(n) {
		return api.ErrWidth
	}
	if len(rows) > api.MaxRows {
		return api.ErrVector
	}
	for i := 0; i < len(rows); i++ {
		if !isVector(n, rows[i], api.MaxBasis) {
			return api.ErrVector
		}
	}
	return api.OK
}

func isWidth(n int) bool {
	return n >= 1 && n <= api.MaxWidth
}

// isVector tells whether v is a vector of width n with no entry greater than
// most or below -most.
func isVector(n int, v []int, most int) bool {
	if len(v) != n {
		return false
	}
	for i := 0; i < len(v); i++ {
		if v[i] > most || v[i] < -most {
			return false
		}
	}
	return true
}

// spanOf does not stop at a lattice that does not fit: with the rows still to
// come it may fit again.
func spanOf(rows [][]int) span.Span {
	s := span.Span{}
	for i := 0; i < len(rows); i++ {
		v := span.VectorOf(rows[i])
		s = s.With(v)
	}
	return s
}
