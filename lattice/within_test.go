package lattice_test

import (
	"testing"

	"lattice/api"
	"lattice/lattice"
)

var withins = []struct {
	n    int
	a, b table
	in   bool // a in b
	on   bool // b in a
}{
	// the document's example
	{2, table{{4, 0}}, table{{2, 0}}, true, false},

	// no rows on one side or on both, in each width
	{1, nil, nil, true, true},
	{2, nil, nil, true, true},
	{3, nil, nil, true, true},
	{1, nil, table{{511}}, true, false},
	{2, nil, table{{1, -511}}, true, false},
	{3, nil, table{{0, 0, 1}}, true, false},

	// the same
	{1, table{{7}}, table{{7}}, true, true},
	{2, table{{3, 1}, {1, 3}}, table{{1, 3}, {0, 8}}, true, true},
	{3, table{{1, 0, 511}, {0, 1, -511}}, table{{1, 1, 0}, {0, 1, -511}}, true, true},

	// one in the other: by the rows' multiples, by sums of them, by more rows
	{1, table{{510}}, table{{5}}, true, false},
	{1, table{{511}}, table{{1}}, true, false},
	{2, table{{4, 2}}, table{{2, 1}}, true, false},
	{2, table{{4, 2}}, table{{4, 2}, {0, 511}}, true, false},
	{2, table{{2, -2}}, table{{3, 1}, {1, 3}}, true, false},
	{3, table{{2, 2, 2}}, table{{1, 1, 1}, {0, 5, 0}}, true, false},
	{3, table{{1, 0, 0}, {0, 0, 1}}, table{{1, 0, 0}, {0, 1, 0}, {0, 0, 1}}, true, false},
	{3, table{{511, 0, 0}, {0, 511, 0}, {0, 0, 511}}, table{{7, 0, 0}, {0, 73, 0}, {0, 0, 511}}, true, false},

	// neither in the other: in the first row, in the middle, in the last
	{1, table{{6}}, table{{10}}, false, false},
	{2, table{{4, 0}}, table{{6, 0}}, false, false},
	{2, table{{1, 0}}, table{{0, 1}}, false, false},
	{2, table{{4, 2}}, table{{4, 3}}, false, false},
	{2, table{{2, 0}, {0, 3}}, table{{2, 0}, {0, 2}}, false, false},
	{3, table{{4, 0, 0}, {0, 2, 0}, {0, 0, 2}}, table{{3, 0, 0}, {0, 1, 0}, {0, 0, 1}}, false, false},
	{3, table{{4, 0, 0}, {0, 3, 0}, {0, 0, 2}}, table{{2, 0, 0}, {0, 2, 0}, {0, 0, 1}}, false, false},
	{3, table{{4, 0, 0}, {0, 2, 0}, {0, 0, 3}}, table{{2, 0, 0}, {0, 1, 0}, {0, 0, 2}}, false, false},
	{3, table{{2, 1, 0}}, table{{2, 0, 0}, {0, 2, 0}, {0, 0, 1}}, false, false},
	{3, table{{1, 0, 0}, {0, 0, 1}}, table{{0, 1, 0}, {0, 0, 1}}, false, false},

	// what both generate does not fit: no error here
	{2, table{{511, 510}}, table{{510, 511}}, false, false},
	{2, table{{1, 256}}, table{{1, -256}}, false, false},
	{3, table{{511, -511, 511}}, table{{511, 511, -511}}, false, false},
}

func TestP8Within(t *testing.T) {
	for _, c := range withins {
		a, b := text(t, c.n, c.a), text(t, c.n, c.b)
		if got, e := lattice.Within(a, b); got != c.in || e != api.OK {
			t.Errorf("P8: Within of %v and %v = %v, %d, want %v", c.a, c.b, got, e, c.in)
		}
		if got, e := lattice.Within(b, a); got != c.on || e != api.OK {
			t.Errorf("P8: Within of %v and %v = %v, %d, want %v", c.b, c.a, got, e, c.on)
		}
	}
}

func TestP8WithinAgainstNumbersWithoutBound(t *testing.T) {
	d := &dice{10}
	in, out := 0, 0
	for i := 0; i < 30000; i++ {
		n := 1 + d.below(3)
		a, b := throwBasis(d, n), throwBasis(d, n)
		if d.below(2) == 0 {
			a = throwWithin(d, n, b)
		}
		want := true
		for _, r := range a {
			want = want && holds(n, b, r)
		}
		got, e := lattice.Within(written(n, a), written(n, b))
		if got != want || e != api.OK {
			t.Fatalf("P8: Within of %v and %v = %v, %d, want %v", a, b, got, e, want)
		}
		if want && len(a) > 0 {
			in++
		}
		if !want {
			out++
		}
	}
	if in < 1000 || out < 1000 {
		t.Errorf("the dice are loaded: %d in, %d out", in, out)
	}
}

// throwWithin makes the canonical basis of a lattice in that of b, or nearly in
// it; no rows, if none that fits comes of the throw.
func throwWithin(d *dice, n int, b table) table {
	var rows table
	for k := 0; k < 3; k++ {
		row := make([]int, n)
		for _, r := range b {
			a := d.within(3)
			for j := range row {
				row[j] += a * r[j]
			}
		}
		if d.below(8) == 0 {
			row[d.below(n)]++
		}
		rows = append(rows, row)
	}
	basis, fits := fitting(canonical(n, rows))
	if !fits {
		return table{}
	}
	return basis
}

// A lattice lies in another just if the other grows no greater by it.
func TestP8WithinGoesWithJoin(t *testing.T) {
	for _, c := range withins {
		a, b := text(t, c.n, c.a), text(t, c.n, c.b)
		s, e := lattice.Join(a, b)
		if in := e == api.OK && s == b; in != c.in {
			t.Errorf("P8: Join of %v and %v = %q, %d, where Within is %v", c.a, c.b, s, e, c.in)
		}
	}
}
