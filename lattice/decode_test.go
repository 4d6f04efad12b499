package lattice_test

import (
	"testing"

	"lattice/api"
	"lattice/lattice"
)

func TestP7Decode(t *testing.T) {
	for _, c := range texts {
		n, b, e := lattice.Decode(c.s)
		if n != c.n || !same(b, c.basis) || e != api.OK {
			t.Errorf("P7: Decode(%q) = %d, %v, %d, want %d, %v", c.s, n, b, e, c.n, c.basis)
		}
	}
	for _, c := range []struct {
		n     int
		basis table
	}{
		{2, table{{1, -511}}},
		{2, table{{5, 2}, {0, 3}}},
		{2, table{{511, 510}, {0, 511}}},
		{3, table{{1, -256, 8}, {0, 0, 9}}},
		{3, table{{1, 0, 511}, {0, 1, -511}}},
		{3, table{{1, 0, -511}, {0, 1, 511}}},
		{3, table{{511, -511, 510}, {0, 0, 511}}},
		{3, table{{511, 510, 510}, {0, 511, 510}, {0, 0, 511}}},
	} {
		s := written(c.n, c.basis)
		n, b, e := lattice.Decode(s)
		if n != c.n || !same(b, c.basis) || e != api.OK {
			t.Errorf("P7: Decode(%q) = %d, %v, %d, want %d, %v", s, n, b, e, c.n, c.basis)
		}
	}
}

func TestP7DecodeRefuses(t *testing.T) {
	for _, s := range noTexts {
		if n, b, e := lattice.Decode(s); n != 0 || b != nil || e != api.ErrText {
			t.Errorf("P7: Decode(%q) = %d, %v, %d, want ErrText", s, n, b, e)
		}
		if _, _, ok := reading(s); ok {
			t.Errorf("the test itself takes %q for a text", s)
		}
	}
}

// Each text with one byte less or more, at either end or in between.
func TestP7DecodeRefusesAnotherLength(t *testing.T) {
	for _, c := range texts {
		for at := 0; at < len(c.s); at++ {
			checkDecode(t, c.s[:at])
			checkDecode(t, c.s[:at]+c.s[at+1:])
			checkDecode(t, c.s[:at]+"\x02"+c.s[at:])
			checkDecode(t, sealed([]byte(c.s[:at])...))
		}
		checkDecode(t, c.s+"\x00")
		checkDecode(t, c.s+c.s)
		checkDecode(t, sealed([]byte(c.s)...))
	}
}

// Each byte of a text turned into each other byte, with the check as it was and
// with the check that it then has.
func TestP7DecodeEveryByte(t *testing.T) {
	right := 0
	for _, c := range texts {
		for at := range len(c.s) {
			bytes := []byte(c.s)
			for b := 0; b < 256; b++ {
				bytes[at] = byte(b)
				checkDecode(t, string(bytes))
				if checkDecode(t, sealed(bytes[:len(bytes)-1]...)) {
					right++
				}
			}
		}
	}
	if right < 1000 {
		t.Errorf("of the changed texts just %d are texts again", right)
	}
}

// All strings of three bytes: three of them are texts.
func TestP7DecodeEveryShortString(t *testing.T) {
	count := 0
	for i := 0; i < 1<<24; i++ {
		s := string([]byte{byte(i >> 16), byte(i >> 8), byte(i)})
		n, b, e := lattice.Decode(s)
		if e == api.OK {
			count++
			if s != "\x01\x00\x08" && s != "\x02\x00\x09" && s != "\x03\x00\x0a" || n != int(s[0]) || len(b) != 0 {
				t.Errorf("P7: Decode(%q) = %d, %v, OK", s, n, b)
			}
		}
	}
	if count != 3 {
		t.Errorf("P7: %d strings of three bytes are texts, want 3", count)
	}
}

// All entries that two bytes can hold, alone and behind a pivot.
func TestP7DecodeEveryEntry(t *testing.T) {
	for i := 0; i < 1<<16; i++ {
		high, low := byte(i>>8), byte(i)
		checkDecode(t, sealed(1, 1, high, low))
		checkDecode(t, sealed(2, 1, 2, 3, high, low))
		checkDecode(t, sealed(3, 2, 2, 3, high, low, 2, 0, 2, 0, 2, 0, 2, 200))
		checkDecode(t, sealed(3, 2, 2, 3, 2, 0, high, low, 2, 0, 2, 0, 2, 200))
	}
}

// Rows that are a canonical basis, and rows that are nearly one.
func TestP7DecodeAgainstTheWords(t *testing.T) {
	d := &dice{7}
	right, wrong := 0, 0
	for i := 0; i < 40000; i++ {
		n := 1 + d.below(3)
		rows := throwBasis(d, n)
		s := written(n, rows)
		if !checkDecode(t, s) {
			t.Fatalf("the test itself takes %v for no canonical basis", rows)
		}
		if len(rows) == 0 {
			continue
		}
		for k := 1 + d.below(2); k > 0; k-- {
			r := rows[d.below(len(rows))]
			j := d.below(n)
			r[j] += d.within(3)
			if d.below(4) == 0 {
				r[j] = -r[j]
			}
		}
		if d.below(8) == 0 {
			a, b := d.below(len(rows)), d.below(len(rows))
			rows[a], rows[b] = rows[b], rows[a]
		}
		if checkDecode(t, written(n, rows)) {
			right++
		} else {
			wrong++
		}
	}
	if right < 1000 || wrong < 1000 {
		t.Errorf("the dice are loaded: %d are texts, %d are not", right, wrong)
	}
}

// What is written is read again, and what is read is written again.
func TestP7DecodeTurnsEncodeBack(t *testing.T) {
	d := &dice{8}
	for i := 0; i < 5000; i++ {
		n := 1 + d.below(3)
		rows := throw(d, n)
		basis, e := lattice.Basis(n, rows)
		if e != api.OK {
			continue
		}
		s := text(t, n, rows)
		m, b, e := lattice.Decode(s)
		if m != n || !same(b, basis) || e != api.OK {
			t.Fatalf("P7: Decode of the text of %v = %d, %v, %d, want %v", rows, m, b, e, basis)
		}
		if again := text(t, m, b); again != s {
			t.Fatalf("P7: %q is read and written again as %q", s, again)
		}
	}
}

// checkDecode holds Decode against the words, and tells whether s is a text.
func checkDecode(t *testing.T, s string) bool {
	t.Helper()
	n, basis, ok := reading(s)
	m, b, e := lattice.Decode(s)
	if ok && (m != n || !same(b, basis) || e != api.OK) {
		t.Fatalf("P7: Decode(%q) = %d, %v, %d, want %d, %v", s, m, b, e, n, basis)
	}
	if !ok && (m != 0 || b != nil || e != api.ErrText) {
		t.Fatalf("P7: Decode(%q) = %d, %v, %d, want ErrText", s, m, b, e)
	}
	return ok
}
