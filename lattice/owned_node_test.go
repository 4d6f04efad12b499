package lattice_test

import (
	"testing"

	"lattice/api"
	"lattice/lattice"
)

// roomyDisk copies a disk into a list with spare room, all of it marked.
func roomyDisk(disk []string) []string {
	all := append(append([]string{}, disk...), "mark", "mark", "mark")
	return all[:len(disk)]
}

func wholeDisk(disk []string) []string {
	return append([]string{}, disk[:cap(disk)]...)
}

func scribbleDisk(disk []string) {
	for i := range disk[:cap(disk)] {
		disk[:cap(disk)][i] = "scribble"
	}
}

func scribbleWrites(writes []api.Write) {
	for i := range writes[:cap(writes)] {
		writes[:cap(writes)][i] = api.Write{Block: -mark, Data: "scribble"}
	}
}

func sameDisk(a, b []string) bool {
	if len(a) != len(b) {
		return false
	}
	for i := range a {
		if a[i] != b[i] {
			return false
		}
	}
	return true
}

// nodeDisks are a blank disk, some that a node of width n left, with all of the
// last call's writes and with some, and such as are wrong.
func nodeDisks(t *testing.T, n int) [][]string {
	t.Helper()
	left := append(usedDisks(t, n), cutDisks(t, n)...)
	return append(append(left, blank(), blank()[:7]), wrongDisks()[:12]...)
}

func TestP2DiskIsNotWrittenIntoNorKept(t *testing.T) {
	for n := 1; n <= 3; n++ {
		for _, disk := range nodeDisks(t, n) {
			room := roomyDisk(disk)
			ahead := wholeDisk(room)
			x, _, e := lattice.Open(n, room)
			if e == api.OK {
				x.Add([]int{4, 2, -2}[:n])
				x.Add([]int{-1, 3, 3}[:n])
				x.Receive(written(n, table{[]int{3, 1, 0}[:n]}))
			}
			if !sameDisk(wholeDisk(room), ahead) {
				t.Errorf("P2: the disk %q has become %q", ahead, wholeDisk(room))
			}
			if e != api.OK {
				continue
			}
			a, _, _ := lattice.Open(n, room)
			b, _, _ := lattice.Open(n, disk)
			scribbleDisk(room)
			if a.Show() != b.Show() {
				t.Errorf("P2: behind what was written into the disk's list a node shows %q, not %q", a.Show(), b.Show())
			}
			for _, v := range [][]int{{4, 2, -2}, {-1, 3, 3}, {0, 0, 1}} {
				checkTwins(t, handed(a, true, v[:n], ""), handed(b, true, v[:n], ""))
			}
		}
	}
}

func TestP2VectorIsNotWrittenIntoNorKept(t *testing.T) {
	d := &dice{41}
	for i := 0; i < 300; i++ {
		n := 1 + d.below(3)
		a, b := opened(t, n), opened(t, n)
		for k := 0; k < 6; k++ {
			v := throwSmall(d, n)
			if d.below(4) == 0 {
				v[0] = 5
			}
			room := roomyRow(v)
			ahead := whole(table{room})
			got := handed(a, true, room, "")
			if !same(whole(table{room}), ahead) {
				t.Fatalf("P2: Add has made %v out of %v", whole(table{room}), ahead)
			}
			scribble(table{room})
			got.shown = a.Show()
			checkTwins(t, got, handed(b, true, v, ""))
		}
	}
}

// The writes are the caller's: what is written into them shows in nothing that
// comes later, nor in what came ahead.
func TestP2WritesAreTheCallers(t *testing.T) {
	d := &dice{42}
	for i := 0; i < 300; i++ {
		n := 1 + d.below(3)
		a, w, _ := lattice.Open(n, blank())
		b, u, _ := lattice.Open(n, blank())
		checkTwins(t, handedOver{writes: w}, handedOver{writes: u})
		scribbleWrites(w)
		for k := 0; k < 8; k++ {
			add, v, s := d.below(2) == 0, throwSmall(d, n), written(n, throwBasis(d, n))
			got := handed(a, add, v, s)
			checkTwins(t, got, handed(b, add, v, s))
			scribbleWrites(got.writes)
		}
	}
}

func TestP2NoTwoListsOfWritesShare(t *testing.T) {
	d := &dice{43}
	for i := 0; i < 300; i++ {
		n := 1 + d.below(3)
		disk := blank()
		var lists [][]api.Write
		for k := 0; k < 3; k++ {
			x, w, _ := lattice.Open(n, disk)
			lists = append(lists, w)
			for j := 0; j < 4; j++ {
				w, _ := x.Add(throwSmall(d, n))
				disk = behind(disk, w)
				lists = append(lists, w)
			}
			u, _ := x.Receive(written(n, throwBasis(d, n)))
			disk = behind(disk, u)
			lists = append(lists, u)
		}
		for k, l := range lists {
			for j := range l[:cap(l)] {
				l[:cap(l)][j].Block = 1000*k + j
			}
		}
		for k, l := range lists {
			for j, w := range l[:cap(l)] {
				if w.Block != 1000*k+j {
					t.Fatalf("P2: two lists of writes share their room")
				}
			}
		}
	}
}

// Two nodes over one disk know nothing of each other.
func TestP2NodesAreApart(t *testing.T) {
	for n := 1; n <= 3; n++ {
		for _, disk := range append(usedDisks(t, n)[2:], blank()) {
			a, _, _ := lattice.Open(n, disk)
			b, _, _ := lattice.Open(n, disk)
			ahead := b.Show()
			if w, _ := a.Add([]int{1, 1, 1}[:n]); len(w) == 0 || a.Show() == ahead {
				t.Fatalf("P10: Add to %q does not make it grow", ahead)
			}
			if b.Show() != ahead {
				t.Errorf("P2: one node has grown, and the other shows %q, not %q", b.Show(), ahead)
			}
		}
	}
}

// What a node answers hangs on its disk and on the calls on it alone, not on
// what other nodes are asked meanwhile.
func TestP2NodeHangsOnItsDiskAndCallsAlone(t *testing.T) {
	for n := 1; n <= 3; n++ {
		for _, disk := range append(usedDisks(t, n), blank()) {
			run := func(busy bool) []handedOver {
				x, w, e := lattice.Open(n, disk)
				answers := []handedOver{{w, e, x.Show()}}
				d, other := &dice{44}, opened(t, 1+n%3)
				for k := 0; k < 30; k++ {
					add, v, s := d.below(2) == 0, throwSmall(d, n), written(n, throwBasis(d, n))
					if busy {
						other.Add([]int{4 - k%5, k % 4, 1}[:1+n%3])
						opened(t, n).Add(v)
						lattice.Join(s, s)
					}
					answers = append(answers, handed(x, add, v, s))
				}
				return answers
			}
			first, second := run(false), run(true)
			for k := range first {
				checkTwins(t, first[k], second[k])
			}
		}
	}
}
