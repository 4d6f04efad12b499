package lattice_test

import (
	"testing"

	"lattice/api"
	"lattice/lattice"
)

// shownOver is what a node over the disk shows. The power fails behind each of
// Open's writes, and in the Open behind that again, and once more.
func shownOver(t *testing.T, n int, disk []string) string {
	t.Helper()
	return shownAgain(t, n, disk, 3)
}

func shownAgain(t *testing.T, n int, disk []string, times int) string {
	t.Helper()
	x, w, e := lattice.Open(n, disk)
	if x == nil || e != api.OK {
		t.Fatalf("P12: Open(%d, %q) = %v, %d", n, disk, x, e)
	}
	checkWrites(t, "Open", w)
	shown := x.Show()
	for k := 0; k <= len(w) && times > 0; k++ {
		if got := shownAgain(t, n, behind(disk, w[:k]), times-1); got != shown {
			t.Fatalf("P12: over %q Open shows %q; with %d of its %d writes on the disk it shows %q", disk, shown, k, len(w), got)
		}
	}
	return shown
}

// checkPower lets the power fail ahead of the last call's writes, behind each
// of them, and behind all.
func (h *held) checkPower(t *testing.T) {
	t.Helper()
	ahead, later := written(h.n, h.last.basis), written(h.n, h.basis)
	count := len(h.last.writes)
	turned := false
	for k := 0; k <= count; k++ {
		shown := shownOver(t, h.n, behind(h.last.disk, h.last.writes[:k]))
		turned = turned || k > 0 && shown == later
		want := ahead
		if turned || k == count {
			want = later
		}
		if shown != want {
			t.Fatalf("P12: with %d of %d writes on the disk a node shows %q, from %q to %q", k, count, shown, ahead, later)
		}
	}
}

// fail lets the power fail behind k of the last call's writes, and begins a
// node anew over what is left.
func (h *held) fail(t *testing.T, k int) *held {
	t.Helper()
	disk := behind(h.last.disk, h.last.writes[:k])
	basis := h.last.basis
	if shownOver(t, h.n, disk) != written(h.n, basis) {
		basis = h.basis
	}
	return heldOver(t, h.n, disk, basis)
}

// call is what a node is handed: a vector, or if there is none the text of a
// basis.
type call struct {
	v     []int
	basis table
}

func (h *held) hand(t *testing.T, c call) api.Errno {
	t.Helper()
	if c.v != nil {
		return h.add(t, c.v)
	}
	return h.receive(t, written(h.n, c.basis))
}

// halves are texts that one node hears one behind the other, each of which
// makes its lattice grow.
func halves(n int) []call {
	pivots := []int{256, 256, 256}[:n]
	all := []call{{basis: diagonal(pivots)}}
	for c := range pivots {
		for pivots[c] > 1 {
			pivots[c] /= 2
			all = append(all, call{basis: diagonal(pivots)})
		}
	}
	return all
}

func diagonal(pivots []int) table {
	var rows table
	for c, p := range pivots {
		row := make([]int, len(pivots))
		row[c] = p
		rows = append(rows, row)
	}
	return rows
}

// cutDisks are disks on which a node of width n has left none, each number of
// first ones, and all of the writes of a call: the first on a blank disk, and
// the ones behind it.
func cutDisks(t *testing.T, n int) [][]string {
	t.Helper()
	h := heldOver(t, n, blank(), nil)
	var all [][]string
	for _, v := range [][]int{{4, -4, 4}, {0, 4, 2}, {2, 0, 4}} {
		h.add(t, v[:n])
		for k := range h.last.writes {
			all = append(all, behind(h.last.disk, h.last.writes[:k]))
		}
		all = append(all, h.disk)
	}
	return all
}
