package lattice_test

import (
	"testing"

	"lattice/api"
	"lattice/lattice"
)

const noughts = "\x00\x00\x00\x00\x00\x00\x00\x00"

func blank() []string {
	return []string{noughts, noughts, noughts, noughts, noughts, noughts, noughts, noughts}
}

// behind tells the disk behind writes; the one ahead of them stays as it is.
func behind(disk []string, writes []api.Write) []string {
	all := append([]string{}, disk...)
	for _, w := range writes {
		all[w.Block] = w.Data
	}
	return all
}

// opened is a node over a blank disk.
func opened(t *testing.T, n int) *lattice.Node {
	t.Helper()
	x, _, e := lattice.Open(n, blank())
	if x == nil || e != api.OK {
		t.Fatalf("P9: Open(%d, a blank disk) = %v, %d", n, x, e)
	}
	return x
}

// held is a node, the disk below it, which all writes reach, and the canonical
// basis that the lattice must have by the document's words.
type held struct {
	n     int
	x     *lattice.Node
	disk  []string
	basis table
	last  lastCall
}

// lastCall is what there was ahead of the last call, and its writes.
type lastCall struct {
	disk   []string
	basis  table
	writes []api.Write
}

func heldOver(t *testing.T, n int, disk []string, basis table) *held {
	t.Helper()
	x, w, e := lattice.Open(n, disk)
	if x == nil || e != api.OK {
		t.Fatalf("P9: Open(%d, %q) = %v, %d", n, disk, x, e)
	}
	checkWrites(t, "Open", w)
	h := &held{n, x, behind(disk, w), basis, lastCall{disk, basis, w}}
	h.checkShow(t, "Open")
	return h
}

func checkWrites(t *testing.T, what string, writes []api.Write) {
	t.Helper()
	if len(writes) > 8 {
		t.Fatalf("P10: %s: %d writes", what, len(writes))
	}
	for _, w := range writes {
		if w.Block < 0 || w.Block > 7 || len(w.Data) != 8 {
			t.Fatalf("P10: %s: a write of block %d, %q", what, w.Block, w.Data)
		}
	}
}

// checkShow looks at the node, and at one that is opened over its disk.
func (h *held) checkShow(t *testing.T, what string) {
	t.Helper()
	want := written(h.n, h.basis)
	if got := h.x.Show(); got != want {
		t.Fatalf("P9: behind %s Show = %q, want the text of %v", what, got, h.basis)
	}
	y, w, e := lattice.Open(h.n, h.disk)
	if y == nil || e != api.OK || y.Show() != want {
		t.Fatalf("P9: behind %s Open(%d, %q) = %v, %d, want the lattice of %v", what, h.n, h.disk, y, e, h.basis)
	}
	checkWrites(t, "Open", w)
}

// add hands v to the node, and holds all that comes of it against numbers
// without bound.
func (h *held) add(t *testing.T, v []int) api.Errno {
	t.Helper()
	want, wantE := h.basis, api.ErrVector
	if isSmall(h.n, v) {
		want, wantE = h.with(table{v})
	}
	got, e := h.x.Add(v)
	h.check(t, "Add", want, wantE, got, e)
	return e
}

func isSmall(n int, v []int) bool {
	if len(v) != n {
		return false
	}
	for _, x := range v {
		if x > 4 || x < -4 {
			return false
		}
	}
	return true
}

func (h *held) receive(t *testing.T, s string) api.Errno {
	t.Helper()
	n, rows, ok := reading(s)
	want, wantE := h.basis, api.OK
	if !ok {
		wantE = api.ErrText
	} else if n != h.n {
		wantE = api.ErrWidth
	} else {
		want, wantE = h.with(rows)
	}
	got, e := h.x.Receive(s)
	h.check(t, "Receive", want, wantE, got, e)
	return e
}

// with tells the basis with more rows, if that fits.
func (h *held) with(rows table) (table, api.Errno) {
	all := append(append(table{}, h.basis...), rows...)
	basis, fits := fitting(canonical(h.n, all))
	if !fits {
		return h.basis, api.ErrBound
	}
	return basis, api.OK
}

func (h *held) check(t *testing.T, what string, want table, wantE api.Errno, writes []api.Write, e api.Errno) {
	t.Helper()
	if e != wantE {
		t.Fatalf("P10, P11: %s of a node with %v has error %d, want %d", what, h.basis, e, wantE)
	}
	if e != api.OK && writes != nil {
		t.Fatalf("P1: %s writes %v beside %d", what, writes, e)
	}
	if (len(writes) == 0) != same(want, h.basis) {
		t.Fatalf("P10: %s has %d writes, from %v to %v", what, len(writes), h.basis, want)
	}
	checkWrites(t, what, writes)
	h.last = lastCall{h.disk, h.basis, writes}
	h.disk = behind(h.disk, writes)
	h.basis = want
	h.checkShow(t, what)
}

// throwSmall makes a vector that Add takes: any, or with great entries alone.
func throwSmall(d *dice, n int) []int {
	v := make([]int, n)
	edge := d.below(3) == 0
	for j := range v {
		v[j] = d.within(4)
		if edge {
			v[j] = 4 * (2*d.below(2) - 1)
		}
	}
	if d.below(3) == 0 {
		v[0] = 0
	}
	return v
}
