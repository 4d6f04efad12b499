package text

import (
	"testing"

	"lattice/span"
)

func spanOf(rows ...[]int) span.Span {
	s := span.Span{}
	for _, r := range rows {
		s = s.With(span.VectorOf(r))
	}
	return s
}

var cases = []struct {
	n    int
	s    span.Span
	want string
}{
	{1, spanOf(), "\x01\x00\x08"},
	{2, spanOf(), "\x02\x00\x09"},
	{3, spanOf(), "\x03\x00\x0a"},
	{2, spanOf([]int{4, 2}), "\x02\x01\x02\x04\x02\x02\x37"},
	{2, spanOf([]int{3, 1}, []int{1, 3}), "\x02\x02\x02\x01\x02\x03\x02\x00\x02\x08\xa3"},
	{3, spanOf([]int{-3, 1, 0}, []int{6, -2, 4}, []int{0, 0, 6}), "\x03\x02\x02\x03\x01\xff\x02\x00\x02\x00\x02\x00\x02\x02\xa9"},
	{3, spanOf([]int{511, -511, 511}), "\x03\x01\x03\xff\x00\x01\x03\xff\x60"},
}

func TestOf(t *testing.T) {
	for _, c := range cases {
		if got := Of(c.n, c.s); got != c.want {
			t.Errorf("Of(%d, %v) = %q, want %q", c.n, c.s, got, c.want)
		}
	}
}

func TestRead(t *testing.T) {
	for _, c := range cases {
		n, s, ok := Read(c.want)
		if n != c.n || s != c.s || !ok {
			t.Errorf("Read(%q) = %d, %v, %v, want %d, %v", c.want, n, s, ok, c.n, c.s)
		}
		for _, wrong := range []string{c.want[1:], c.want[:len(c.want)-1], c.want + "\x00", "\x00" + c.want} {
			n, s, ok := Read(wrong)
			if n != 0 || s != (span.Span{}) || ok {
				t.Errorf("Read(%q) = %d, %v, %v", wrong, n, s, ok)
			}
		}
	}
}
