package lattice

import (
	"lattice/api"
	"lattice/span"
	"lattice/text"
)

// pair is two texts of one width, read.
type pair struct {
	width  int
	first  span.Span
	second span.Span
}

// readPair looks at both texts ahead of their widths, since ErrText is named
// ahead of ErrWidth.
func readPair(s string, t string) (pair, api.Errno) {
	n, first, ok := text.Read(s)
	if !ok {
		return pair{}, api.ErrText
	}
	m, second, alsoOk := text.Read(t)
	if !alsoOk {
		return pair{}, api.ErrText
	}
	if n != m {
		return pair{}, api.ErrWidth
	}
	return pair{width: n, first: first, second: second}, api.OK
}
