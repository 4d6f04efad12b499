package lattice_test

import (
	"testing"

	"lattice/api"
	"lattice/lattice"
)

// P11: nodes that hear of each other in any order, any number of times, show
// the same bytes.
func TestP11EveryOrder(t *testing.T) {
	for n := 1; n <= 3; n++ {
		vectors := table{[]int{4, 2, 0}[:n], []int{0, 4, 2}[:n], []int{2, 0, 4}[:n], []int{4, 4, -4}[:n]}
		basis, _ := fitting(canonical(n, vectors))
		want := written(n, basis)
		var shown []string
		for _, v := range vectors {
			x := opened(t, n)
			x.Add(v)
			shown = append(shown, x.Show())
		}
		// every list of 6 of the 4 texts: where all are in it, all is known
		for k := 0; k < 4096; k++ {
			x := opened(t, n)
			seen := [4]bool{}
			for i, rest := 0, k; i < 6; i++ {
				if _, e := x.Receive(shown[rest%4]); e != api.OK {
					t.Fatalf("P11: Receive(%q) has error %d", shown[rest%4], e)
				}
				seen[rest%4] = true
				rest /= 4
			}
			if seen == [4]bool{true, true, true, true} && x.Show() != want {
				t.Fatalf("P11: in order %d a node of width %d shows %q, want %q", k, n, x.Show(), want)
			}
		}
	}
}

// Nodes that are handed small vectors, and what such nodes show, never meet
// with ErrBound, and once each has heard of all, all show the same bytes. Some
// of them are opened again over their disks on the way.
func TestP11Gossip(t *testing.T) {
	d := &dice{37}
	for i := 0; i < 1500; i++ {
		n := 1 + d.below(3)
		nodes := make([]*held, 2+d.below(4))
		for k := range nodes {
			nodes[k] = heldOver(t, n, blank(), nil)
		}
		var all table
		for k := 5 + d.below(15); k > 0; k-- {
			at := d.below(len(nodes))
			e := api.OK
			switch d.below(5) {
			case 0, 1:
				v := throwSmall(d, n)
				all = append(all, v)
				e = nodes[at].add(t, v)
			case 2, 3:
				e = nodes[at].receive(t, nodes[d.below(len(nodes))].x.Show())
			case 4:
				nodes[at] = heldOver(t, n, nodes[at].disk, nodes[at].basis)
			}
			if e != api.OK {
				t.Fatalf("P11: a node with %v has error %d, of %v", nodes[at].basis, e, all)
			}
		}
		checkAgree(t, n, nodes, all)
	}
}

// checkAgree sends all that is known round twice, so that each node has heard
// of each other.
func checkAgree(t *testing.T, n int, nodes []*held, all table) {
	t.Helper()
	for k := 1; k < 2*len(nodes); k++ {
		from, to := nodes[(k-1)%len(nodes)], nodes[k%len(nodes)]
		if e := to.receive(t, from.x.Show()); e != api.OK {
			t.Fatalf("P11: Receive(%q) has error %d", from.x.Show(), e)
		}
	}
	basis, _ := fitting(canonical(n, all))
	for _, h := range nodes {
		if h.x.Show() != written(n, basis) {
			t.Fatalf("P11: a node that has heard of %v shows %q, want the text of %v", all, h.x.Show(), basis)
		}
	}
}

// The greatest lattices that small vectors generate fit.
func TestP11SmallVectorsAlwaysFit(t *testing.T) {
	d := &dice{38}
	for i := 0; i < 20000; i++ {
		x := opened(t, 3)
		for k := 0; k < 3; k++ {
			v := throwSmall(d, 3)
			if _, e := x.Add(v); e != api.OK {
				t.Fatalf("P11: to %q Add(%v) has error %d", x.Show(), v, e)
			}
		}
	}
	great := opened(t, 3)
	for _, v := range [][]int{{4, 4, 4}, {4, -4, 4}, {4, 4, -4}} {
		if _, e := great.Add(v); e != api.OK {
			t.Errorf("P11: Add(%v) has error %d", v, e)
		}
	}
	if want := text(t, 3, table{{4, 4, 4}, {4, -4, 4}, {4, 4, -4}}); great.Show() != want {
		t.Errorf("P11: Show = %q, want %q", great.Show(), want)
	}
	if _, rows, _ := lattice.Decode(great.Show()); len(rows) != 3 {
		t.Errorf("P11: the lattice has the rows %v", rows)
	}
}
