// Package text turns a lattice that fits into bytes, and back.
package text

import (
	"lattice/api"
	"lattice/span"
)

const (
	head = 2 // bytes ahead of the entries: the width, and how many rows there are
	wide = 2 // bytes of an entry
	tail = 1 // bytes behind the entries: the check

	// shift lifts the least entry that may stand in a text above 0.
	shift = api.MaxBasis + 1
)

// Of tells the text of a lattice of width n. It must fit, since a greater entry
// has no room in its bytes.
func Of(n int, s span.Span) string {
	rows := s.Rows(n)
	made := []byte{byte(n), byte(len(rows))}
	for i := 0; i < len(rows); i++ {
		for j := 0; j < len(rows[i]); j++ {
			lifted := rows[i][j] + shift
			made = append(made, byte(lifted/256), byte(lifted%256))
		}
	}
	check := checkOf(made)
	made = append(made, check)
	return string(made)
}

func checkOf(bytes []byte) byte {
	sum := 7
	for i := 0; i < len(bytes); i++ {
		sum += (i + 1) * int(bytes[i])
	}
	return byte(sum % 251)
}

// Read tells the width and the lattice of a text, and whether s is one. A
// lattice has one text alone: so s is a text just if the lattice of the rows
// that stand in it is written in the same bytes again. That takes in the order
// of the pivots, what stands above them, and the check.
func Read(s string) (int, span.Span, bool) {
	if !hasShape(s) {
		return 0, span.Span{}, false
	}
	n := int(s[0])
	made := span.Span{}
	for at := head; at+n*wide+tail <= len(s); at += n * wide {
		v, ok := vectorIn(s[at : at+n*wide])
		if !ok {
			return 0, span.Span{}, false
		}
		made = made.With(v)
	}
	if !made.Fits() {
		return 0, span.Span{}, false
	}
	again := Of(n, made)
	if again != s {
		return 0, span.Span{}, false
	}
	return n, made, true
}

// hasShape tells whether the length is the one that the first two bytes ask
// for, so that no more is read than is there, and little of a long string.
func hasShape(s string) bool {
	if len(s) < head+tail {
		return false
	}
	n := int(s[0])
	count := int(s[1])
	if n < 1 || n > api.MaxWidth || count > n {
		return false
	}
	return len(s) == head+count*n*wide+tail
}

// vectorIn refuses an entry beyond api.MaxBasis: a lattice takes none.
func vectorIn(s string) (span.Vector, bool) {
	var v span.Vector
	for i := 0; i < len(v) && (i+1)*wide <= len(s); i++ {
		entry := int64(s[i*wide])*256 + int64(s[i*wide+1]) - shift
		if entry > api.MaxBasis || entry < -api.MaxBasis {
			return span.Vector{}, false
		}
		v[i] = entry
	}
	return v, true
}
