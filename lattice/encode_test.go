package lattice_test

import (
	"testing"

	"lattice/api"
	"lattice/lattice"
)

// texts have their bytes written out, so that nothing here is worked out in the
// way in which the program does it.
var texts = []struct {
	n     int
	rows  table
	basis table
	s     string
}{
	// the document's examples
	{2, nil, table{}, "\x02\x00\x09"},
	{2, table{{4, 2}}, table{{4, 2}}, "\x02\x01\x02\x04\x02\x02\x37"},
	{2, table{{3, 1}, {1, 3}}, table{{1, 3}, {0, 8}}, "\x02\x02\x02\x01\x02\x03\x02\x00\x02\x08\xa3"},
	{3, table{{-3, 1, 0}, {6, -2, 4}, {0, 0, 6}}, table{{3, -1, 0}, {0, 0, 2}}, "\x03\x02\x02\x03\x01\xff\x02\x00\x02\x00\x02\x00\x02\x02\xa9"},

	// no rows, in each width
	{1, table{{0}}, table{}, "\x01\x00\x08"},
	{2, table{{0, 0}, {0, 0}}, table{}, "\x02\x00\x09"},
	{3, table{}, table{}, "\x03\x00\x0a"},

	// fewer rows than the width
	{2, table{{0, -1}}, table{{0, 1}}, "\x02\x01\x02\x00\x02\x01\x21"},
	{3, table{{0, 0, 7}}, table{{0, 0, 7}}, "\x03\x01\x02\x00\x02\x00\x02\x07\x62"},
	{3, table{{0, 5, 0}, {0, 0, 6}}, table{{0, 5, 0}, {0, 0, 6}}, "\x03\x02\x02\x00\x02\x05\x02\x00\x02\x00\x02\x00\x02\x06\xe0"},

	// as many rows as the width
	{1, table{{6}, {10}, {15}}, table{{1}}, "\x01\x01\x02\x01\x14"},
	{1, table{{-59}}, table{{59}}, "\x01\x01\x02\x3b\x01"},
	{2, table{{511, 0}, {0, 511}}, table{{511, 0}, {0, 511}}, "\x02\x02\x03\xff\x02\x00\x02\x00\x03\xff\x81"},
	{3, table{{0, 0, 1}, {0, 1, 0}, {1, 0, 0}}, table{{1, 0, 0}, {0, 1, 0}, {0, 0, 1}}, "\x03\x03\x02\x01\x02\x00\x02\x00\x02\x00\x02\x01\x02\x00\x02\x00\x02\x00\x02\x01\xfa"},

	// 511 and -511
	{1, table{{-511}}, table{{511}}, "\x01\x01\x03\xff\x23"},
	{3, table{{-511, 511, -511}}, table{{511, -511, 511}}, "\x03\x01\x03\xff\x00\x01\x03\xff\x60"},
}

func TestP6Encode(t *testing.T) {
	for _, c := range texts {
		s, e := lattice.Encode(c.n, c.rows)
		if e != api.OK || s != c.s {
			t.Errorf("P6: Encode(%d, %v) = %q, %d, want %q", c.n, c.rows, s, e, c.s)
		}
		if s := written(c.n, c.basis); s != c.s {
			t.Errorf("the test itself writes %v as %q, not %q", c.basis, s, c.s)
		}
	}
}

// The error of Basis, and else the text of what Basis tells: P3's cases hold
// what just fits, what just does not, and which error is named first.
func TestP6EncodeHasTheErrorOfBasis(t *testing.T) {
	for _, c := range bases {
		want := ""
		if c.e == api.OK {
			want = written(c.n, c.want)
		}
		if s, e := lattice.Encode(c.n, c.rows); s != want || e != c.e {
			t.Errorf("P6: Encode(%d, %v) = %q, %d, want %q, %d", c.n, c.rows, s, e, want, c.e)
		}
	}
}

func TestP6EncodeAgainstNumbersWithoutBound(t *testing.T) {
	d := &dice{6}
	fit, tooGreat := 0, 0
	for i := 0; i < 20000; i++ {
		n := 1 + d.below(3)
		rows := throw(d, n)
		basis, fits := fitting(canonical(n, rows))
		s, e := lattice.Encode(n, rows)
		if fits && (e != api.OK || s != written(n, basis)) {
			t.Fatalf("P6: Encode(%d, %v) = %q, %d, want the text of %v", n, rows, s, e, basis)
		}
		if !fits && (e != api.ErrBound || s != "") {
			t.Fatalf("P6: Encode(%d, %v) = %q, %d, want ErrBound", n, rows, s, e)
		}
		if fits {
			fit++
		} else {
			tooGreat++
		}
	}
	if fit < 1000 || tooGreat < 1000 {
		t.Errorf("the dice are loaded: %d fit, %d do not", fit, tooGreat)
	}
}
