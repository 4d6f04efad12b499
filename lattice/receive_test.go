package lattice_test

import (
	"testing"

	"lattice/api"
)

func TestP11Receive(t *testing.T) {
	two := written(2, table{{4, 0}, {0, 2}})
	for _, c := range []struct {
		n     int
		ahead table
		s     string
		e     api.Errno
		some  bool
		want  table
	}{
		// the document's example
		{2, table{{4, 2}}, written(2, table{{0, 2}}), api.OK, true, table{{4, 0}, {0, 2}}},
		{2, table{{4, 0}, {0, 2}}, written(3, table{{1, 0, 0}}), api.ErrWidth, false, table{{4, 0}, {0, 2}}},

		// nothing new: no rows, the same, one that lies in the node's
		{1, nil, written(1, nil), api.OK, false, nil},
		{2, nil, written(2, nil), api.OK, false, nil},
		{3, nil, written(3, nil), api.OK, false, nil},
		{3, table{{4, -511, 3}}, written(3, nil), api.OK, false, table{{4, -511, 3}}},
		{2, table{{4, 0}, {0, 2}}, two, api.OK, false, table{{4, 0}, {0, 2}}},
		{2, table{{4, 0}, {0, 2}}, written(2, table{{8, 2}}), api.OK, false, table{{4, 0}, {0, 2}}},
		{1, table{{7}}, written(1, table{{511}}), api.OK, false, table{{7}}},
		{3, table{{1, 0, 0}, {0, 1, 0}, {0, 0, 1}}, written(3, table{{511, 510, 510}, {0, 511, 510}, {0, 0, 511}}), api.OK, false, table{{1, 0, 0}, {0, 1, 0}, {0, 0, 1}}},

		// it grows: into an empty one, in a pivot, in rows
		{1, nil, written(1, table{{511}}), api.OK, true, table{{511}}},
		{2, nil, two, api.OK, true, table{{4, 0}, {0, 2}}},
		{3, nil, written(3, table{{511, 510, 510}, {0, 511, 510}, {0, 0, 511}}), api.OK, true, table{{511, 510, 510}, {0, 511, 510}, {0, 0, 511}}},
		{1, table{{511}}, written(1, table{{510}}), api.OK, true, table{{1}}},
		{2, table{{4, 0}, {0, 2}}, written(2, table{{511, 510}}), api.OK, true, table{{1, 0}, {0, 2}}},
		{2, table{{4, 0}}, written(2, table{{2, 0}}), api.OK, true, table{{2, 0}}},
		{3, table{{2, 0, 0}, {0, 2, 0}}, written(3, table{{1, 1, 1}}), api.OK, true, table{{1, 1, 1}, {0, 2, 0}, {0, 0, 2}}},
		{3, table{{511, 0, 0}, {0, 511, 0}, {0, 0, 511}}, written(3, table{{511, 510, 509}, {0, 511, 508}, {0, 0, 511}}), api.OK, true, table{{511, 0, 0}, {0, 1, 0}, {0, 0, 1}}},

		// just fits, and just does not
		{2, table{{1, 255}}, written(2, table{{1, -256}}), api.OK, true, table{{1, 255}, {0, 511}}},
		{2, table{{1, 256}}, written(2, table{{1, -256}}), api.ErrBound, false, table{{1, 256}}},
		{2, table{{511, 510}}, written(2, table{{510, 511}}), api.ErrBound, false, table{{511, 510}}},
		{3, table{{1, 1, 0}}, written(3, table{{0, 1, -511}}), api.OK, true, table{{1, 0, 511}, {0, 1, -511}}},
		{3, table{{1, 1, 1}}, written(3, table{{0, 1, -511}}), api.ErrBound, false, table{{1, 1, 1}}},
		{3, table{{511, -511, 511}}, written(3, table{{511, 511, -511}}), api.ErrBound, false, table{{511, -511, 511}}},

		// other widths, the width ahead of the bound
		{1, table{{4}}, two, api.ErrWidth, false, table{{4}}},
		{1, nil, written(3, nil), api.ErrWidth, false, nil},
		{2, table{{511, 510}}, written(1, table{{511}}), api.ErrWidth, false, table{{511, 510}}},
		{3, table{{511, -511, 511}}, written(2, table{{511, 510}}), api.ErrWidth, false, table{{511, -511, 511}}},

		// no texts, ahead of the width and of the bound
		{2, table{{4, 2}}, "", api.ErrText, false, table{{4, 2}}},
		{2, table{{4, 2}}, two + "\x00", api.ErrText, false, table{{4, 2}}},
		{2, table{{4, 2}}, two[:len(two)-1], api.ErrText, false, table{{4, 2}}},
		{2, table{{4, 2}}, written(2, table{{0, 2}, {4, 0}}), api.ErrText, false, table{{4, 2}}},
		{2, table{{4, 2}}, written(3, nil) + "x", api.ErrText, false, table{{4, 2}}},
		{2, table{{4, 2}}, written(3, table{{-1, 0, 0}}), api.ErrText, false, table{{4, 2}}},
		{2, table{{511, 510}}, written(2, table{{512, 511}}), api.ErrText, false, table{{511, 510}}},
	} {
		x := opened(t, c.n)
		x.Receive(written(c.n, c.ahead))
		w, e := x.Receive(c.s)
		if e != c.e || (len(w) > 0) != c.some || e != api.OK && w != nil {
			t.Errorf("P11: a node with %v: Receive(%q) = %v, %d, want error %d and writes: %v", c.ahead, c.s, w, e, c.e, c.some)
		}
		checkWrites(t, "Receive", w)
		if got := x.Show(); got != written(c.n, c.want) {
			t.Errorf("P11: a node with %v: behind Receive(%q) Show = %q, want the text of %v", c.ahead, c.s, got, c.want)
		}
	}
}

func TestP11NoTexts(t *testing.T) {
	for n := 1; n <= 3; n++ {
		for _, basis := range []table{nil, {[]int{4, 2, 2}[:n]}, {[]int{511, 510, -511}[:n]}} {
			h := heldOver(t, n, blank(), nil)
			h.receive(t, written(n, basis))
			for _, s := range noTexts {
				if e := h.receive(t, s); e != api.ErrText {
					t.Errorf("P11: Receive(%q) has error %d, want ErrText", s, e)
				}
			}
		}
	}
}

func TestP11OtherWidths(t *testing.T) {
	for n := 1; n <= 3; n++ {
		h := heldOver(t, n, blank(), nil)
		h.add(t, []int{4, 2, 2}[:n])
		for _, c := range texts {
			if c.n == n {
				continue
			}
			if e := h.receive(t, c.s); e != api.ErrWidth {
				t.Errorf("P11: Receive(%q) of width %d has error %d, want ErrWidth", c.s, n, e)
			}
		}
	}
}

// Exact (P1): held against numbers without bound.
func TestP11AgainstNumbersWithoutBound(t *testing.T) {
	d := &dice{36}
	seen := map[api.Errno]int{}
	for i := 0; i < 3000; i++ {
		n := 1 + d.below(3)
		h := heldOver(t, n, blank(), nil)
		for k := 0; k < 5; k++ {
			m := n
			if d.below(6) == 0 {
				m = 1 + d.below(3)
			}
			s := written(m, throwBasis(d, m))
			if d.below(6) == 0 {
				s = s[:len(s)-1] + string([]byte{s[len(s)-1] ^ byte(1+d.below(255))})
			}
			seen[h.receive(t, s)]++
		}
	}
	for _, e := range []api.Errno{api.OK, api.ErrText, api.ErrWidth, api.ErrBound} {
		if seen[e] < 500 {
			t.Errorf("the dice are loaded: %v", seen)
		}
	}
}
