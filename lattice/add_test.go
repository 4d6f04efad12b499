package lattice_test

import (
	"testing"

	"lattice/api"
	"lattice/lattice"
)

type step struct {
	v    []int
	e    api.Errno
	some bool // writes
	want table
}

// adds are vectors that one node is handed one behind the other.
var adds = []struct {
	n     int
	steps []step
}{
	{1, []step{
		{[]int{0}, api.OK, false, nil},
		{[]int{4}, api.OK, true, table{{4}}},
		{[]int{-4}, api.OK, false, table{{4}}},
		{[]int{5}, api.ErrVector, false, table{{4}}},
		{[]int{-5}, api.ErrVector, false, table{{4}}},
		{[]int{}, api.ErrVector, false, table{{4}}},
		{nil, api.ErrVector, false, table{{4}}},
		{[]int{2, 0}, api.ErrVector, false, table{{4}}},
		{[]int{2, 0, 0}, api.ErrVector, false, table{{4}}},
		{[]int{greatest}, api.ErrVector, false, table{{4}}},
		{[]int{least}, api.ErrVector, false, table{{4}}},
		{[]int{1 << 32}, api.ErrVector, false, table{{4}}},
		{[]int{-2}, api.OK, true, table{{2}}},
		{[]int{3}, api.OK, true, table{{1}}},
		{[]int{-4}, api.OK, false, table{{1}}},
	}},
	{2, []step{
		// the document's example
		{[]int{4, 2}, api.OK, true, table{{4, 2}}},
		{[]int{-4, -2}, api.OK, false, table{{4, 2}}},
		{[]int{5, 0}, api.ErrVector, false, table{{4, 2}}},

		{[]int{0, 0}, api.OK, false, table{{4, 2}}},
		{[]int{0, 5}, api.ErrVector, false, table{{4, 2}}},
		{[]int{-5, 0}, api.ErrVector, false, table{{4, 2}}},
		{[]int{0, -5}, api.ErrVector, false, table{{4, 2}}},
		{[]int{8, 4}, api.ErrVector, false, table{{4, 2}}}, // in the lattice, but no such vector
		{[]int{4}, api.ErrVector, false, table{{4, 2}}},
		{[]int{4, 2, 0}, api.ErrVector, false, table{{4, 2}}},
		{nil, api.ErrVector, false, table{{4, 2}}},
		{[]int{4, 4}, api.OK, true, table{{4, 0}, {0, 2}}},
		{[]int{-4, 4}, api.OK, false, table{{4, 0}, {0, 2}}},
		{[]int{1, 1}, api.OK, true, table{{1, 1}, {0, 2}}},
		{[]int{-3, -3}, api.OK, false, table{{1, 1}, {0, 2}}},
		{[]int{0, 1}, api.OK, true, table{{1, 0}, {0, 1}}},
		{[]int{4, -4}, api.OK, false, table{{1, 0}, {0, 1}}},
		{[]int{4, -5}, api.ErrVector, false, table{{1, 0}, {0, 1}}},
	}},
	{3, []step{
		{[]int{0, 0, -4}, api.OK, true, table{{0, 0, 4}}},
		{[]int{0, 0, 4}, api.OK, false, table{{0, 0, 4}}},
		{[]int{0, 0, 5}, api.ErrVector, false, table{{0, 0, 4}}},
		{[]int{0, 0, -5}, api.ErrVector, false, table{{0, 0, 4}}},
		{[]int{0, 5, 0}, api.ErrVector, false, table{{0, 0, 4}}},
		{[]int{-5, 0, 0}, api.ErrVector, false, table{{0, 0, 4}}},
		{[]int{0, 0}, api.ErrVector, false, table{{0, 0, 4}}},
		{[]int{0, 0, 0, 0}, api.ErrVector, false, table{{0, 0, 4}}},
		{[]int{4, -4, -4}, api.OK, true, table{{4, -4, 0}, {0, 0, 4}}},
		{[]int{4, 4, 4}, api.OK, true, table{{4, 4, 0}, {0, 8, 0}, {0, 0, 4}}},
		{[]int{0, 0, 1}, api.OK, true, table{{4, 4, 0}, {0, 8, 0}, {0, 0, 1}}},
		{[]int{-4, 4, 3}, api.OK, false, table{{4, 4, 0}, {0, 8, 0}, {0, 0, 1}}},
		{[]int{3, 0, 0}, api.OK, true, table{{1, 0, 0}, {0, 4, 0}, {0, 0, 1}}},
		{[]int{0, 3, 2}, api.OK, true, table{{1, 0, 0}, {0, 1, 0}, {0, 0, 1}}},
	}},
}

func TestP10Add(t *testing.T) {
	for _, c := range adds {
		x := opened(t, c.n)
		for _, s := range c.steps {
			w, e := x.Add(s.v)
			if e != s.e || (len(w) > 0) != s.some || e != api.OK && w != nil {
				t.Errorf("P10: Add(%v) = %v, %d, want error %d and writes: %v", s.v, w, e, s.e, s.some)
			}
			checkWrites(t, "Add", w)
			if got := x.Show(); got != written(c.n, s.want) {
				t.Errorf("P10: behind Add(%v) Show = %q, want the text of %v", s.v, got, s.want)
			}
		}
	}
}

// Every vector with entries from -5 to 5, into nodes with no row and with some.
func TestP10AddEverySmallVector(t *testing.T) {
	for n := 1; n <= 3; n++ {
		for _, rows := range []table{nil, {{4, 2, 2}}, {{2, 1, 0}, {0, 3, 1}, {0, 0, 4}}} {
			begun := heldOver(t, n, blank(), nil)
			for _, r := range rows {
				begun.add(t, r[:n])
			}
			count := 1
			for i := 0; i < n; i++ {
				count *= 11
			}
			for k := 0; k < count; k++ {
				v := []int{k%11 - 5, k/11%11 - 5, k/121%11 - 5}[:n]
				h := heldOver(t, n, begun.disk, begun.basis)
				h.add(t, v)
			}
		}
	}
}

// greats are lattices that only Receive brings in; with v they do not fit.
var greats = []struct {
	n     int
	basis table
	v     []int
}{
	{2, table{{511, 510}}, []int{-4, 4}},
	{2, table{{511, 511}}, []int{4, -4}},
	{2, table{{1, 511}}, []int{1, -1}}, // a pivot of 512
	{3, table{{511, 510, 1}}, []int{-4, 4, 0}},
	{3, table{{1, 1, 511}}, []int{0, 1, -1}}, // an entry of 512 behind the pivots
	{3, table{{0, 1, 511}}, []int{1, 1, -1}}, // an entry of -512
	{3, table{{511, 0, 0}, {0, 511, 510}}, []int{0, 4, -4}},
}

func TestP10AddTooGreat(t *testing.T) {
	for _, c := range greats {
		h := heldOver(t, c.n, blank(), nil)
		if e := h.receive(t, written(c.n, c.basis)); e != api.OK {
			t.Fatalf("P11: Receive of the text of %v has error %d", c.basis, e)
		}
		if e := h.add(t, c.v); e != api.ErrBound {
			t.Errorf("P10: Add(%v) to %v has error %d, want ErrBound", c.v, c.basis, e)
		}
		// ErrVector is named ahead of ErrBound.
		longer := append(append([]int{}, c.v...), 0)
		greater := append([]int{}, c.v...)
		greater[1] = 5
		for _, v := range [][]int{longer, c.v[1:], greater} {
			if e := h.add(t, v); e != api.ErrVector {
				t.Errorf("P10: Add(%v) to %v has error %d, want ErrVector", v, c.basis, e)
			}
		}
	}
	// the edge, where it fits just so
	h := heldOver(t, 2, blank(), nil)
	h.receive(t, written(2, table{{1, 510}}))
	if e := h.add(t, []int{1, -1}); e != api.OK || h.x.Show() != written(2, table{{1, 510}, {0, 511}}) {
		t.Errorf("P10: Add((1 -1)) to (1 510) has error %d, and shows %q", e, h.x.Show())
	}
}

// Exact (P1): held against numbers without bound, with great lattices too.
func TestP10AgainstNumbersWithoutBound(t *testing.T) {
	d := &dice{34}
	seen := map[api.Errno]int{}
	for i := 0; i < 2000; i++ {
		n := 1 + d.below(3)
		h := heldOver(t, n, blank(), nil)
		h.receive(t, written(n, throwBasis(d, n)))
		for k := 0; k < 6; k++ {
			v := throwSmall(d, n)
			if d.below(5) == 0 {
				v[d.below(n)] = []int{5, -5, 511, greatest, least}[d.below(5)]
			}
			seen[h.add(t, v)]++
		}
	}
	if seen[api.OK] < 1000 || seen[api.ErrVector] < 1000 || seen[api.ErrBound] < 500 {
		t.Errorf("the dice are loaded: %v", seen)
	}
}

// P1: a node that refuses stays as it was: what it answers later too.
func TestP1RefusalsLeaveNoTrace(t *testing.T) {
	d := &dice{35}
	refused := 0
	for i := 0; i < 500; i++ {
		n := 1 + d.below(3)
		a, b := opened(t, n), opened(t, n)
		for k := 0; k < 8; k++ {
			refused += refuse(t, a, n, d)
			v, s := throwSmall(d, n), written(n, throwBasis(d, n))
			add := d.below(2) == 0
			checkTwins(t, handed(a, add, v, s), handed(b, add, v, s))
		}
	}
	if refused < 1000 {
		t.Errorf("the dice are loaded: only %d refusals", refused)
	}
}

// refuse hands over what may be refused, but makes sure ahead that it is.
func refuse(t *testing.T, x *lattice.Node, n int, d *dice) int {
	t.Helper()
	shown := x.Show()
	count := 0
	texts := []string{"", shown + "x", noTexts[d.below(len(noTexts))], written(1+n%3, nil), written(1+n%3, table{[]int{1, 1, 1}[:1+n%3]})}
	great := written(n, throwRow(d, n))
	if _, e := lattice.Join(shown, great); e == api.ErrBound {
		texts = append(texts, great)
	}
	for _, s := range texts {
		if w, e := x.Receive(s); w != nil || e == api.OK || x.Show() != shown {
			t.Fatalf("P11: Receive(%q) = %v, %d, and %q has become %q", s, w, e, shown, x.Show())
		}
		count++
	}
	for _, v := range [][]int{nil, {1, 1, 1, 1}, []int{5, 1, 1}[:n], []int{1, 1, -5}[3-n:]} {
		if w, e := x.Add(v); w != nil || e != api.ErrVector || x.Show() != shown {
			t.Fatalf("P10: Add(%v) = %v, %d, and %q has become %q", v, w, e, shown, x.Show())
		}
		count++
	}
	return count
}

type handedOver struct {
	writes []api.Write
	e      api.Errno
	shown  string
}

func handed(x *lattice.Node, add bool, v []int, s string) handedOver {
	if add {
		w, e := x.Add(v)
		return handedOver{w, e, x.Show()}
	}
	w, e := x.Receive(s)
	return handedOver{w, e, x.Show()}
}

func checkTwins(t *testing.T, a, b handedOver) {
	t.Helper()
	if !sameWrites(a.writes, b.writes) || a.e != b.e || a.shown != b.shown {
		t.Fatalf("P2: of two nodes with the same calls one answers %v, %d and shows %q, the other %v, %d and %q", a.writes, a.e, a.shown, b.writes, b.e, b.shown)
	}
}

func sameWrites(a, b []api.Write) bool {
	if len(a) != len(b) {
		return false
	}
	for i := range a {
		if a[i] != b[i] {
			return false
		}
	}
	return true
}
