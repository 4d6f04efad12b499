package lattice_test

import (
	"testing"

	"lattice/api"
	"lattice/lattice"
)

// shownOver is what a node over the disk shows.
func shownOver(t *testing.T, n int, disk []string) string {
	t.Helper()
	x, w, e := lattice.Open(n, disk)
	if x == nil || e != api.OK {
		t.Fatalf("P12: Open(%d, %q) = %v, %d", n, disk, x, e)
	}
	checkWrites(t, "Open", w)
	for k := range w {
		if y, _, e := lattice.Open(n, behind(disk, w[:k])); e != api.OK || y.Show() != x.Show() {
			t.Fatalf("P12: with %d of the writes of Open on %q it has error %d", k, disk, e)
		}
	}
	return x.Show()
}

// checkPower lets the power fail behind each of the writes of one call.
func checkPower(t *testing.T, n int, disk []string, writes []api.Write, ahead, later string) {
	t.Helper()
	turned := false
	for k := 0; k <= len(writes); k++ {
		shown := shownOver(t, n, behind(disk, writes[:k]))
		turned = turned || k > 0 && shown == later
		want := ahead
		if turned || k == len(writes) {
			want = later
		}
		if shown != want {
			t.Fatalf("P12: with %d of %d writes on the disk a node shows %q, from %q to %q", k, len(writes), shown, ahead, later)
		}
	}
}

// P12: the power fails at any moment, and a node goes on over what is left.
func TestP12PowerFails(t *testing.T) {
	d := &dice{51}
	for i := 0; i < 600; i++ {
		n := 1 + d.below(3)
		disk := blank()
		for round := 0; round < 6; round++ {
			x, w, e := lattice.Open(n, disk)
			if e != api.OK {
				t.Fatalf("P12: Open(%d, %q) has error %d", n, disk, e)
			}
			disk = behind(disk, w)
			for k := d.below(4); k >= 0; k-- {
				ahead := x.Show()
				got := handed(x, d.below(3) > 0, throwSmall(d, n), written(n, throwBasis(d, n)))
				checkPower(t, n, disk, got.writes, ahead, got.shown)
				if k > 0 {
					disk = behind(disk, got.writes)
				} else {
					disk = behind(disk, got.writes[:d.below(len(got.writes)+1)])
				}
			}
		}
	}
}
