package lattice_test

import (
	"strings"
	"testing"

	"lattice/api"
	"lattice/lattice"
)

const (
	greatest = int(^uint(0) >> 1)
	least    = -greatest - 1
)

func wildRows() []table {
	one := []int{1}
	many := make(table, 100000)
	for i := range many {
		many[i] = one
	}
	return []table{
		nil, {}, {nil}, {{}}, {nil, {}, nil}, many, make(table, 7), make(table, 100000),
		{{greatest}}, {{least}}, {{greatest, least}, {least, greatest}}, {{least, least, least}}, {{greatest, greatest, greatest}, {1, 2, 3}},
		{make([]int, 100000)}, {{1, 2, 3}, make([]int, 100000)}, {{0}}, {{0, 0}}, {{0, 0, 0}}, {{1}}, {{1, 2}}, {{1, 2, 3}}, {{1, 2, 3, 4}},
		{{511, 510}, {510, 511}}, {{511, 1, 0}, {0, 511, 1}, {1, 0, 511}},
	}
}

// P1: every call ends and none panics; with an error all else is nil, 0, false.
func TestP1AnyInput(t *testing.T) {
	widths := []int{least, -511, -1, 0, 1, 2, 3, 4, 5, 511, greatest}
	vectors := [][]int{nil, {}, {0}, {1}, {0, 0}, {1, 2}, {0, 0, 0}, {1, 2, 3}, {0, 0, 0, 0}, {greatest}, {least}, {least, greatest}, {greatest, least, 0}, make([]int, 100000)}
	for _, n := range widths {
		for _, rows := range wildRows() {
			b, e := lattice.Basis(n, rows)
			if e != api.OK && b != nil {
				t.Errorf("P1: Basis(%d, ...) = %v beside %d", n, b, e)
			}
			if (e == api.ErrWidth) != (n < 1 || n > 3) {
				t.Errorf("P3: Basis(%d, ...) has error %d", n, e)
			}
			m, f := lattice.Index(n, rows)
			if f != e || e != api.OK && m != 0 {
				t.Errorf("P5: Index(%d, ...) = %d, %d, where Basis has error %d", n, m, f, e)
			}
			s, g := lattice.Encode(n, rows)
			if g != e || (s == "") != (e != api.OK) {
				t.Errorf("P6: Encode(%d, ...) = %q, %d, where Basis has error %d", n, s, g, e)
			}
			for _, v := range vectors {
				y, g := lattice.Has(n, rows, v)
				if g != api.OK && y {
					t.Errorf("P1: Has(%d, ..., %d entries) is true beside %d", n, len(v), g)
				}
				if g != hasError(n, v, e) {
					t.Errorf("P4: Has(%d, ..., %d entries) has error %d, where Basis has %d", n, len(v), g, e)
				}
			}
		}
	}
}

// wildTexts have no bound on their length, and bytes of every kind.
func wildTexts() []string {
	all := []string{
		"", strings.Repeat("\x00", 100000), strings.Repeat("\x01", 100000), strings.Repeat("\x02", 100000), strings.Repeat("\x03", 100000), strings.Repeat("\xff", 1<<20),
		"\x03\x03" + strings.Repeat("\xff", 19), "\x03\x03" + strings.Repeat("\x00", 19), "\x01\x01\x80\x00\x00", "\x02\x02\x00\x00\xff\xff\x80\x00\x7f\xff\x00",
		"\x02\x00\x09" + strings.Repeat("\x00", 1<<20), "\xe2\x82\xac", "\xc3\x28",
	}
	d := &dice{11}
	for i := 0; i < 300; i++ {
		n, count := d.below(6), d.below(6)
		bytes := []byte{byte(n), byte(count)}
		for k := 2*n*count + d.below(3)*d.below(3); k > 0; k-- {
			bytes = append(bytes, byte(d.below(256)>>uint(d.below(8))))
		}
		all = append(all, sealed(bytes...))
	}
	return append(all, "\x02\x01\x02\x04\x02\x02\x37", "\x03\x00\x0a")
}

// P1 for the calls on texts.
func TestP1AnyText(t *testing.T) {
	all := wildTexts()
	for _, s := range all {
		n, b, e := lattice.Decode(s)
		if e != api.OK && (e != api.ErrText || n != 0 || b != nil) {
			t.Errorf("P1: Decode(%.40q) = %d, %v, %d", s, n, b, e)
		}
		for _, u := range all {
			m, _, f := lattice.Decode(u)
			none := e != api.OK || f != api.OK
			j, g := lattice.Join(s, u)
			if (g == api.ErrText) != none || (g == api.ErrWidth) != (!none && n != m) || (j == "") != (g != api.OK) {
				t.Errorf("P8: Join(%.40q, %.40q) = %q, %d", s, u, j, g)
			}
			y, h := lattice.Within(s, u)
			if (h == api.ErrText) != none || (h == api.ErrWidth) != (!none && n != m) || h != api.OK && y {
				t.Errorf("P8: Within(%.40q, %.40q) = %v, %d", s, u, y, h)
			}
		}
	}
}

// hasError tells the error of Has from that of Basis.
func hasError(n int, v []int, e api.Errno) api.Errno {
	if e == api.ErrWidth || e == api.ErrVector {
		return e
	}
	if len(v) != n {
		return api.ErrVector
	}
	for _, x := range v {
		if x > 511 || x < -511 {
			return api.ErrVector
		}
	}
	return e
}

// P1 for the calls on nodes: the errors themselves are held against the
// document's words by add and receive.
func TestP1AnyNode(t *testing.T) {
	vectors := [][]int{nil, {}, {0}, {1}, {greatest}, {least}, {0, 0}, {1, 2}, {least, greatest}, {0, 0, 0}, {1, 2, 3}, {greatest, least, 0}, {0, 0, 0, 0}, make([]int, 100000)}
	for n := 1; n <= 3; n++ {
		h := heldOver(t, n, blank(), nil)
		for _, v := range vectors {
			h.add(t, v)
		}
		for _, s := range wildTexts() {
			h.receive(t, s)
		}
	}
	for _, n := range []int{least, -1, 0, 1, 2, 3, 4, greatest} {
		for _, disk := range wrongDisks() {
			x, w, e := lattice.Open(n, disk)
			if x != nil || w != nil || e == api.OK {
				t.Errorf("P1: Open(%d, %d blocks) = %v, %v, %d", n, len(disk), x, w, e)
			}
		}
	}
}
