package lattice_test

import (
	"testing"

	"lattice/api"
	"lattice/lattice"
)

var joins = []struct {
	n    int
	a, b table
	want table
	e    api.Errno
}{
	// the document's example
	{2, table{{4, 0}}, table{{6, 0}}, table{{2, 0}}, api.OK},

	// no rows on one side or on both, in each width
	{1, nil, nil, table{}, api.OK},
	{2, nil, nil, table{}, api.OK},
	{3, nil, nil, table{}, api.OK},
	{1, nil, table{{511}}, table{{511}}, api.OK},
	{2, nil, table{{4, 2}}, table{{4, 2}}, api.OK},
	{3, nil, table{{4, -511, 3}}, table{{4, -511, 3}}, api.OK},
	{3, nil, table{{1, 0, 511}, {0, 1, -511}}, table{{1, 0, 511}, {0, 1, -511}}, api.OK},

	// the same twice, and one that lies in the other
	{2, table{{4, 2}}, table{{4, 2}}, table{{4, 2}}, api.OK},
	{2, table{{4, 0}}, table{{2, 0}}, table{{2, 0}}, api.OK},
	{3, table{{2, 2, 2}}, table{{1, 1, 1}, {0, 5, 0}}, table{{1, 1, 1}, {0, 5, 0}}, api.OK},
	{1, table{{510}}, table{{1}}, table{{1}}, api.OK},

	// neither in the other
	{1, table{{6}}, table{{10}}, table{{2}}, api.OK},
	{1, table{{511}}, table{{510}}, table{{1}}, api.OK},
	{2, table{{3, 1}, {1, 3}}, table{{1, 1}}, table{{1, 1}, {0, 2}}, api.OK},
	{2, table{{5, 0}}, table{{0, 7}}, table{{5, 0}, {0, 7}}, api.OK},
	{3, table{{2, 0, 0}, {0, 2, 0}}, table{{1, 1, 1}}, table{{1, 1, 1}, {0, 2, 0}, {0, 0, 2}}, api.OK},
	{3, table{{0, 2, -3}}, table{{0, 4, 1}}, table{{0, 2, 4}, {0, 0, 7}}, api.OK},
	{3, table{{1, 0, 0}}, table{{0, 0, 1}}, table{{1, 0, 0}, {0, 0, 1}}, api.OK},

	// three rows on both sides
	{3, table{{4, 0, 0}, {0, 6, 0}, {0, 0, 10}}, table{{6, 0, 0}, {0, 9, 0}, {0, 0, 15}}, table{{2, 0, 0}, {0, 3, 0}, {0, 0, 5}}, api.OK},
	{3, table{{511, 510, 510}, {0, 511, 510}, {0, 0, 511}}, table{{510, 509, 509}, {0, 510, 509}, {0, 0, 510}}, table{{1, 0, 0}, {0, 1, 0}, {0, 0, 1}}, api.OK},
	{3, table{{511, 0, 0}, {0, 511, 0}, {0, 0, 511}}, table{{511, 510, 509}, {0, 511, 508}, {0, 0, 511}}, table{{511, 0, 0}, {0, 1, 0}, {0, 0, 1}}, api.OK},

	// just fits, and just does not: a pivot, and what is behind the last pivot
	{2, table{{1, 255}}, table{{1, -256}}, table{{1, 255}, {0, 511}}, api.OK},
	{2, table{{1, 256}}, table{{1, -256}}, nil, api.ErrBound},
	{3, table{{1, 1, 0}}, table{{0, 1, -511}}, table{{1, 0, 511}, {0, 1, -511}}, api.OK},
	{3, table{{1, 1, 1}}, table{{0, 1, -511}}, nil, api.ErrBound},
	{3, table{{1, 1, 0}}, table{{0, 1, 511}}, table{{1, 0, -511}, {0, 1, 511}}, api.OK},
	{3, table{{1, 1, -1}}, table{{0, 1, 511}}, nil, api.ErrBound},
	{2, table{{511, 510}}, table{{510, 511}}, nil, api.ErrBound},
	{3, table{{511, -511, 511}}, table{{511, 511, -511}}, nil, api.ErrBound},

	// does not fit until the last row is in
	{2, table{{511, 510}}, table{{510, 0}, {0, 450}}, table{{1, 60}, {0, 450}}, api.OK},
}

func TestP8Join(t *testing.T) {
	for _, c := range joins {
		a, b := text(t, c.n, c.a), text(t, c.n, c.b)
		want := ""
		if c.e == api.OK {
			want = written(c.n, c.want)
		}
		checkJoin(t, a, b, want, c.e)
		checkJoin(t, b, a, want, c.e)
	}
}

func checkJoin(t *testing.T, a, b, want string, e api.Errno) {
	t.Helper()
	if got, f := lattice.Join(a, b); got != want || f != e {
		t.Errorf("P8: Join(%q, %q) = %q, %d, want %q, %d", a, b, got, f, want, e)
	}
}

// Exact (P1): held against numbers without bound.
func TestP8JoinAgainstNumbersWithoutBound(t *testing.T) {
	d := &dice{9}
	fit, tooGreat := 0, 0
	for i := 0; i < 30000; i++ {
		n := 1 + d.below(3)
		a, b := throwBasis(d, n), throwBasis(d, n)
		s, u := written(n, a), written(n, b)
		rows := append(append(table{}, a...), b...)
		want, fits := fitting(canonical(n, rows))
		got, e := lattice.Join(s, u)
		if fits && (e != api.OK || got != written(n, want)) {
			t.Fatalf("P8: Join of %v and %v = %q, %d, want the text of %v", a, b, got, e, want)
		}
		if !fits && (e != api.ErrBound || got != "") {
			t.Fatalf("P8: Join of %v and %v = %q, %d, want ErrBound", a, b, got, e)
		}
		if fits {
			fit++
		} else {
			tooGreat++
		}
	}
	if fit < 1000 || tooGreat < 1000 {
		t.Errorf("the dice are loaded: %d fit, %d do not", fit, tooGreat)
	}
}

// A text that is none is named first, whatever is beside it: a text of the same
// width or of another, or one more that is none.
func TestP8WrongTexts(t *testing.T) {
	for _, wrong := range noTexts {
		for _, c := range texts {
			checkBoth(t, wrong, c.s, api.ErrText)
			checkBoth(t, c.s, wrong, api.ErrText)
		}
		for _, other := range noTexts {
			checkBoth(t, wrong, other, api.ErrText)
		}
	}
}

func TestP8OtherWidths(t *testing.T) {
	for _, c := range texts {
		for _, o := range texts {
			if c.n != o.n {
				checkBoth(t, c.s, o.s, api.ErrWidth)
			}
		}
	}
}

// checkBoth wants an error of Join and of Within, and nothing beside it.
func checkBoth(t *testing.T, s, u string, e api.Errno) {
	t.Helper()
	if got, f := lattice.Join(s, u); got != "" || f != e {
		t.Errorf("P8: Join(%q, %q) = %q, %d, want %d", s, u, got, f, e)
	}
	if got, f := lattice.Within(s, u); got || f != e {
		t.Errorf("P8: Within(%q, %q) = %v, %d, want %d", s, u, got, f, e)
	}
}
