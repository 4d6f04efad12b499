package lattice_test

import (
	"testing"

	"lattice/api"
	"lattice/lattice"
)

// sealed lays the check that the document asks for behind the bytes.
func sealed(bytes ...byte) string {
	sum := 7
	for i, b := range bytes {
		sum += (i + 1) * int(b)
	}
	return string(bytes) + string([]byte{byte(sum % 251)})
}

// written is the text of a canonical basis, by the document's words. Rows that
// are none, and entries that have no place in a text, are written just so.
func written(n int, basis table) string {
	bytes := []byte{byte(n), byte(len(basis))}
	for _, r := range basis {
		for _, x := range r {
			bytes = append(bytes, byte((x+512)>>8), byte(x+512))
		}
	}
	return sealed(bytes...)
}

// reading tells by the document's words what s is the text of, if it is one:
// another way than the program's, which writes what it has read again.
func reading(s string) (int, table, bool) {
	if len(s) < 3 || s[0] < 1 || s[0] > 3 || s[1] > s[0] || len(s) != 3+2*int(s[0])*int(s[1]) || sealed([]byte(s[:len(s)-1])...) != s {
		return 0, nil, false
	}
	n := int(s[0])
	var basis table
	for at := 2; at < len(s)-1; at += 2 * n {
		var row []int
		for j := 0; j < n; j++ {
			row = append(row, int(s[at+2*j])<<8+int(s[at+2*j+1])-512)
		}
		basis = append(basis, row)
	}
	return n, basis, isBasis(basis)
}

// isBasis tells whether rows are a canonical basis that fits.
func isBasis(rows table) bool {
	last := -1
	for i, r := range rows {
		at := 0
		for at < len(r) && r[at] == 0 {
			at++
		}
		if at == len(r) || at <= last || r[at] < 0 {
			return false
		}
		last = at
		for _, ahead := range rows[:i] {
			if ahead[at] < 0 || ahead[at] >= r[at] {
				return false
			}
		}
		for _, x := range r {
			if x > 511 || x < -511 {
				return false
			}
		}
	}
	return true
}

// throwBasis makes a canonical basis that fits, of any shape, its entries
// anywhere up to the edge.
func throwBasis(d *dice, n int) table {
	most := []int{1, 3, 12, 511}[d.below(4)]
	basis := table{}
	if d.below(4) == 0 {
		return throwRow(d, n)
	}
	for c := 0; c < n; c++ {
		if d.below(3) == 0 {
			continue
		}
		row := make([]int, n)
		row[c] = 1 + d.below(most)
		if d.below(6) == 0 {
			row[c] = 511
		}
		for j := c + 1; j < n; j++ {
			row[j] = d.within(most)
			if d.below(6) == 0 {
				row[j] = 511 * (2*d.below(2) - 1)
			}
		}
		for _, ahead := range basis {
			ahead[c] = d.below(row[c])
		}
		basis = append(basis, row)
	}
	return basis
}

// throwRow makes a basis of one great row: two such rows seldom fit together.
func throwRow(d *dice, n int) table {
	row := make([]int, n)
	for j := range row {
		row[j] = d.within(511)
	}
	basis, _ := fitting(canonical(n, table{row}))
	return basis
}

// text is what Encode writes, where nothing stands against it.
func text(t *testing.T, n int, rows table) string {
	t.Helper()
	s, e := lattice.Encode(n, rows)
	if e != api.OK {
		t.Fatalf("P6: Encode(%d, %v) = %q, %d", n, rows, s, e)
	}
	return s
}

// noTexts are strings that are the text of no lattice.
var noTexts = []string{
	// the empty string, and less than a width, a number of rows and a check
	"", "\x00", "\x01", "\x02", "\x03", "\x02\x00", "\x01\x01", sealed(), sealed(1), sealed(2), sealed(3),

	// one byte too short
	"\x02\x01\x02\x04\x02\x02", "\x02\x02\x02\x01\x02\x03\x02\x00\x02\x08", sealed(2, 1, 2, 4, 2), sealed(1, 1, 2), sealed(3, 2, 2, 3, 1, 255, 2, 0, 2, 0, 2, 0, 2),

	// one byte too long
	"\x02\x00\x09\x00", "\x02\x00\x09\x09", "\x02\x01\x02\x04\x02\x02\x37\x00", "\x02\x01\x02\x04\x02\x02\x37\x37", sealed(2, 0, 0), sealed(2, 0, 9), sealed(2, 1, 2, 4, 2, 2, 0), sealed(1, 1, 2, 1, 0), sealed(2, 1, 2, 4, 2, 2, 55),

	// one row or one entry too few or too many
	sealed(2, 1), sealed(2, 0, 2, 4, 2, 2), sealed(2, 2, 2, 4, 2, 2), sealed(2, 1, 2, 1, 2, 3, 2, 0, 2, 8), sealed(2, 1, 2, 4), sealed(2, 1, 2, 4, 2, 2, 2, 0), sealed(3, 1, 2, 4, 2, 2), sealed(1, 1, 2, 4, 2, 2),

	// a width that is none
	sealed(0, 0), sealed(4, 0), sealed(255, 0), sealed(0, 1), sealed(0, 1, 2, 1), sealed(4, 1, 2, 1, 2, 0, 2, 0, 2, 0), sealed(255, 1, 2, 1, 2, 1), sealed(50, 0), sealed(48, 0),

	// a number of rows that is none
	sealed(1, 2, 2, 1, 2, 1), sealed(1, 2, 2, 2, 2, 1), sealed(2, 3, 2, 1, 2, 0, 2, 0, 2, 1, 2, 0, 2, 0), sealed(2, 255), sealed(1, 255, 2, 1), sealed(1, 128), sealed(3, 4, 2, 1, 2, 0, 2, 0, 2, 0, 2, 1, 2, 0, 2, 0, 2, 0, 2, 1, 2, 0, 2, 0, 2, 0),

	// a wrong check; the last one is 251 more than the right one
	"\x02\x00\x08", "\x02\x00\x0a", "\x02\x00\x00", "\x02\x00\xff", "\x02\x01\x02\x04\x02\x02\x36", "\x02\x01\x02\x04\x02\x02\x38", "\x02\x02\x02\x01\x02\x03\x02\x00\x02\x08\xa2", "\x01\x01\x02\x3b\xfc",

	// a row of noughts: alone, ahead, behind, in the middle
	sealed(1, 1, 2, 0), sealed(2, 1, 2, 0, 2, 0), sealed(3, 1, 2, 0, 2, 0, 2, 0), sealed(2, 2, 2, 0, 2, 0, 2, 1, 2, 0), sealed(2, 2, 2, 1, 2, 0, 2, 0, 2, 0),
	written(3, table{{1, 0, 0}, {0, 0, 0}, {0, 0, 1}}),

	// a pivot below 0: in the first row and in another
	sealed(1, 1, 1, 255), sealed(2, 1, 1, 255, 2, 0), sealed(2, 1, 2, 0, 1, 255), written(2, table{{1, 0}, {0, -1}}), written(3, table{{0, 0, -511}}), written(3, table{{-3, 1, 0}}),

	// pivots that do not stand further right
	written(2, table{{0, 1}, {1, 0}}), written(2, table{{1, 0}, {1, 1}}), written(2, table{{3, 1}, {1, 3}}), written(2, table{{0, 3}, {0, 5}}), written(3, table{{0, 0, 1}, {0, 1, 0}}), written(3, table{{1, 0, 0}, {0, 0, 1}, {0, 1, 0}}), written(3, table{{2, 4, 6}, {2, 4, 6}}), written(3, table{{1, 0, 0}, {0, 1, 0}, {0, 1, 1}}),

	// above a pivot: as great as the pivot, greater, below 0
	written(2, table{{1, 3}, {0, 3}}), written(2, table{{1, 4}, {0, 3}}), written(2, table{{1, -1}, {0, 3}}), written(2, table{{5, 1}, {0, 1}}), written(2, table{{5, -3}, {0, 3}}),
	written(3, table{{1, 0, 9}, {0, 0, 9}}), written(3, table{{1, -7, -1}, {0, 0, 9}}), written(3, table{{0, 1, 9}, {0, 0, 9}}), written(3, table{{0, 1, -1}, {0, 0, 9}}), written(3, table{{1, 2, 0}, {0, 2, 5}}), written(3, table{{1, -1, 0}, {0, 2, 5}}),
	written(3, table{{1, 2, 0}, {0, 2, 0}, {0, 0, 2}}), written(3, table{{1, 0, 2}, {0, 2, 0}, {0, 0, 2}}), written(3, table{{1, 0, 0}, {0, 2, 2}, {0, 0, 2}}), written(3, table{{1, 0, 0}, {0, 2, -1}, {0, 0, 2}}),

	// rows that generate a lattice that does not fit
	written(2, table{{511, 510}, {510, 511}}), written(3, table{{1, 1, 1}, {0, 1, -511}}), written(3, table{{511, 1, 0}, {0, 511, 1}, {1, 0, 511}}),

	// an entry beyond 511 or below -511
	sealed(1, 1, 4, 0), sealed(1, 1, 255, 255), sealed(1, 1, 6, 1), sealed(1, 1, 128, 0), sealed(1, 1, 0, 0), sealed(1, 1, 0, 1),
	sealed(2, 1, 2, 1, 4, 0), sealed(2, 1, 2, 1, 0, 0), sealed(2, 1, 2, 1, 255, 255), sealed(2, 1, 4, 0, 2, 1), sealed(2, 1, 2, 0, 4, 0), sealed(3, 1, 2, 1, 2, 0, 4, 0), sealed(3, 1, 2, 1, 0, 0, 2, 0), sealed(3, 2, 2, 1, 2, 0, 2, 0, 2, 0, 2, 1, 0, 0),
	written(2, table{{1, 511}, {0, 512}}), written(2, table{{512, 0}, {0, 1}}), written(3, table{{1, 0, 0}, {0, 1, 0}, {0, 0, 512}}),

	// words
	"x", "2 0 9", "lattice", "\xff\xff\xff", "\x00\x00\x07",
}
