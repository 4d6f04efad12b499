// Package span keeps the lattice that vectors generate as its canonical basis.
package span

import "lattice/api"

// Vector has room for the greatest width. What lies beyond a smaller width is
// 0, so that one way of working serves every width.
type Vector [api.MaxWidth]int64

// Span is a lattice. Its row c is the row of the canonical basis whose pivot
// stands in column c, or noughts where there is none: so two Spans are the same
// lattice just if they are the same numbers, and the zero Span is the lattice
// of no vectors.
type Span struct {
	rows [api.MaxWidth]Vector
}

// VectorOf copies, so that what is handed in is neither kept nor changed.
func VectorOf(v []int) Vector {
	var made Vector
	for i := 0; i < len(v) && i < len(made); i++ {
		made[i] = int64(v[i])
	}
	return made
}

// With tells the lattice that s and v generate together. The vectors from which
// s was made, and v, have no entry beyond M = api.MaxBasis.
//
// 64 bits are then enough. A minor of a canonical basis (of as many columns as
// it has rows) is the greatest common divisor of such minors of the vectors
// that generate the lattice, thus at most M, 2MM or 4MMM for 1, 2 or 3 rows.
// That bounds the product of the pivots, and with it all else in the basis.
// While v goes in, a row is multiplied at most by the entry that it is measured
// against; the greatest product that can come of it, where row 0 is reduced by
// row 1 below a new third pivot, is under M(2MM+1) times 4MMM, less than 2^58.
// This hangs on the rows being reduced behind each vector: if it were done only
// at the end, the numbers would go on growing from vector to vector.
func (s Span) With(v Vector) Span {
	for c := 0; c < len(s.rows); c++ {
		row, rest := sweep(s.rows[c], v, c)
		s.rows[c] = row
		v = rest
	}
	return s.reduced()
}

// sweep turns a and b into two vectors that generate the same lattice, the
// second with 0 in column c and the first with 0 or more there.
func sweep(a Vector, b Vector, c int) (Vector, Vector) {
	for b[c] != 0 {
		rest := takeAway(a, a[c]/b[c], b)
		a = b
		b = rest
	}
	if a[c] < 0 {
		a = takeAway(Vector{}, 1, a)
	}
	return a, b
}

// reduced goes from the last row up, so that a row that is taken away is small
// itself, and in a row from left to right, so that no column that is done is
// spoiled.
func (s Span) reduced() Span {
	for c := len(s.rows) - 1; c >= 0; c-- {
		row := s.rows[c]
		for d := c + 1; d < len(s.rows); d++ {
			times := quotient(row[d], s.rows[d][d])
			row = takeAway(row, times, s.rows[d])
		}
		s.rows[c] = row
	}
	return s
}

// takeAway takes b away from a so many times.
func takeAway(a Vector, times int64, b Vector) Vector {
	for i := 0; i < len(a); i++ {
		a[i] -= times * b[i]
	}
	return a
}

// quotient rounds down, since what remains above a pivot must not be negative.
// A pivot that is not there takes nothing away.
func quotient(a int64, pivot int64) int64 {
	if pivot <= 0 {
		return 0
	}
	q := a / pivot
	if a%pivot < 0 {
		q--
	}
	return q
}

// Fits tells whether no entry of the basis is beyond api.MaxBasis.
func (s Span) Fits() bool {
	for c := 0; c < len(s.rows); c++ {
		for i := 0; i < len(s.rows[c]); i++ {
			if s.rows[c][i] > api.MaxBasis || s.rows[c][i] < -api.MaxBasis {
				return false
			}
		}
	}
	return true
}

// Has tells whether v is in the lattice: only the row with its pivot in a
// column can clear that column, once those to the left of it are clear.
func (s Span) Has(v Vector) bool {
	for c := 0; c < len(s.rows); c++ {
		times := quotient(v[c], s.rows[c][c])
		v = takeAway(v, times, s.rows[c])
		if v[c] != 0 {
			return false
		}
	}
	return true
}

// Join tells the lattice that s and t generate together. Both fit: so the rows
// of t are such as With takes.
func (s Span) Join(t Span) Span {
	for c := 0; c < len(t.rows); c++ {
		s = s.With(t.rows[c])
	}
	return s
}

// Within tells whether each vector of s is in t: just if each row is, since t
// is closed under sums of multiples.
func (s Span) Within(t Span) bool {
	for c := 0; c < len(s.rows); c++ {
		if !t.Has(s.rows[c]) {
			return false
		}
	}
	return true
}

// Index needs no look at how many rows there are: where a row is missing, 0
// stands in the place of its pivot, and the product is 0.
func (s Span) Index(n int) int {
	product := int64(1)
	for c := 0; c < n && c < len(s.rows); c++ {
		product *= s.rows[c][c]
	}
	return int(product)
}

// Rows tells the canonical basis in lists of width n, each with memory of its
// own.
func (s Span) Rows(n int) [][]int {
	list := [][]int{}
	for c := 0; c < len(s.rows); c++ {
		if s.rows[c][c] != 0 {
			row := listOf(s.rows[c], n)
			list = append(list, row)
		}
	}
	return list
}

func listOf(v Vector, n int) []int {
	list := []int{}
	for i := 0; i < n && i < len(v); i++ {
		list = append(list, int(v[i]))
	}
	return list
}
