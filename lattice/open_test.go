package lattice_test

import (
	"strings"
	"testing"

	"lattice/api"
	"lattice/lattice"
)

func TestP9Blank(t *testing.T) {
	for n, want := range []string{1: "\x01\x00\x08", 2: "\x02\x00\x09", 3: "\x03\x00\x0a"} {
		if n == 0 {
			continue
		}
		x := opened(t, n)
		if got := x.Show(); got != want {
			t.Errorf("P9: of width %d over a blank disk Show = %q, want %q", n, got, want)
		}
		h := heldOver(t, n, blank(), nil)
		for i := 0; i < 3; i++ {
			h = heldOver(t, n, h.disk, nil)
		}
	}
}

// wrongDisks are lists that are not of 8 blocks of 8 bytes each.
func wrongDisks() [][]string {
	all := [][]string{nil, {}, {noughts}, blank()[:7], append(blank(), noughts), append(blank(), blank()...), make([]string, 8), {strings.Repeat(noughts, 8)}, {"", "", "", "", "", "", "", strings.Repeat(noughts, 8)}, make([]string, 64), make([]string, 100000)}
	for i := 0; i < 8; i++ {
		for _, block := range []string{"", noughts[:1], noughts[:7], noughts + "\x00", noughts + "x", noughts + noughts, strings.Repeat("\x00", 256+8), strings.Repeat("x", 1<<16+8)} {
			d := blank()
			d[i] = block
			all = append(all, d)
		}
		// as many bytes as a disk has, but not 8 in each block
		d := blank()
		d[i] = noughts[:7]
		d[(i+1)%8] = noughts + "\x00"
		all = append(all, d)
	}
	return all
}

func TestP9WrongDisks(t *testing.T) {
	for n := 1; n <= 3; n++ {
		for _, d := range wrongDisks() {
			if x, w, e := lattice.Open(n, d); x != nil || w != nil || e != api.ErrDisk {
				t.Errorf("P9: Open(%d, %d blocks) = %v, %v, %d, want ErrDisk", n, len(d), x, w, e)
			}
		}
		used := usedDisks(t, n)[0]
		for i := range used {
			for _, block := range []string{"", used[i][:7], used[i] + "\x00", used[i] + used[i]} {
				d := append([]string{}, used...)
				d[i] = block
				if x, w, e := lattice.Open(n, d); x != nil || w != nil || e != api.ErrDisk {
					t.Errorf("P9: Open(%d, %q) = %v, %v, %d, want ErrDisk", n, d, x, w, e)
				}
			}
		}
	}
}

// ErrWidth is named ahead of ErrDisk.
func TestP9WrongWidths(t *testing.T) {
	disks := append(wrongDisks(), blank())
	for n := 1; n <= 3; n++ {
		disks = append(disks, usedDisks(t, n)...)
	}
	for _, n := range []int{least, -512, -2, -1, 0, 4, 5, 255, 256, 257, 1 << 32, 1<<32 + 1, greatest} {
		for _, d := range disks {
			if x, w, e := lattice.Open(n, d); x != nil || w != nil || e != api.ErrWidth {
				t.Errorf("P9: Open(%d, %d blocks) = %v, %v, %d, want ErrWidth", n, len(d), x, w, e)
			}
		}
	}
}

// usedDisks are disks that a node of width n has left, one for each time that
// its lattice has grown; of the first the lattice is greatest.
func usedDisks(t *testing.T, n int) [][]string {
	t.Helper()
	h := heldOver(t, n, blank(), nil)
	var all [][]string
	for _, v := range [][]int{{4, -4, 4}, {0, 4, 2}, {0, 0, 4}, {2, 0, 0}, {3, 3, -3}} {
		h.add(t, v[:n])
		all = append([][]string{h.disk}, all...)
	}
	return all
}

// What a node has left is there for the next node, and for the one behind it.
func TestP9Again(t *testing.T) {
	d := &dice{31}
	for i := 0; i < 300; i++ {
		n := 1 + d.below(3)
		h := heldOver(t, n, blank(), nil)
		for k := 0; k < 12; k++ {
			h.add(t, throwSmall(d, n))
			if d.below(3) == 0 {
				h.receive(t, written(n, throwBasis(d, n)))
			}
			if d.below(2) == 0 {
				h = heldOver(t, n, h.disk, h.basis)
			}
		}
	}
}

// checkAnyDisk wants ErrDisk, or a node of width n that works.
func checkAnyDisk(t *testing.T, n int, disk []string) bool {
	t.Helper()
	x, w, e := lattice.Open(n, disk)
	if e != api.OK {
		if x != nil || w != nil || e != api.ErrDisk {
			t.Fatalf("P9: Open(%d, %q) = %v, %v, %d", n, disk, x, w, e)
		}
		return false
	}
	if x == nil {
		t.Fatalf("P9: Open(%d, %q): no node, and no error", n, disk)
	}
	m, basis, ok := reading(x.Show())
	if !ok || m != n {
		t.Fatalf("P9: over %q Show = %q, no text of width %d", disk, x.Show(), n)
	}
	h := heldOver(t, n, disk, basis)
	h.add(t, []int{5, 0, 0}[:n])
	h.add(t, []int{4, -2, 3}[:n])
	h.receive(t, "x")
	h.receive(t, written(n, table{[]int{6, 2, 8}[:n]}))
	h.add(t, []int{-1, 0, 0}[:n])
	return true
}

// A disk of other bytes may be refused or opened.
func TestP9AnyDisk(t *testing.T) {
	d := &dice{32}
	for i := 0; i < 3000; i++ {
		disk := blank()
		for k := range disk {
			block := make([]byte, 8)
			for j := range block {
				block[j] = byte(d.below(256) >> uint(d.below(8)))
			}
			disk[k] = string(block)
		}
		checkAnyDisk(t, 1+i%3, disk)
	}
	for b := 0; b < 256; b++ {
		disk := blank()
		for k := range disk {
			disk[k] = strings.Repeat(string([]byte{byte(b)}), 8)
		}
		checkAnyDisk(t, 1+b%3, disk)
	}
}

// Each byte of a disk that a node left becomes each other one.
func TestP9SpoiledByte(t *testing.T) {
	opens, refusals := 0, 0
	for n := 1; n <= 3; n++ {
		for _, used := range append(usedDisks(t, n)[:2], blank()) {
			for at := 0; at < 64; at++ {
				for b := 0; b < 256; b++ {
					disk := append([]string{}, used...)
					block := []byte(disk[at/8])
					block[at%8] = byte(b)
					disk[at/8] = string(block)
					if checkAnyDisk(t, n, disk) {
						opens++
					} else {
						refusals++
					}
				}
			}
		}
	}
	if opens == 0 {
		t.Errorf("P9: not one of %d disks was opened", refusals)
	}
}

// Blocks change places, come from another disk, or from a node of another width.
func TestP9SpoiledBlock(t *testing.T) {
	d := &dice{33}
	var pool [][]string
	for n := 1; n <= 3; n++ {
		pool = append(pool, usedDisks(t, n)...)
	}
	pool = append(pool, blank())
	for n := 1; n <= 3; n++ {
		for _, disk := range pool {
			checkAnyDisk(t, n, disk)
		}
	}
	for i := 0; i < 20000; i++ {
		disk := append([]string{}, pool[d.below(len(pool))]...)
		for k := d.below(4); k >= 0; k-- {
			disk[d.below(8)] = pool[d.below(len(pool))][d.below(8)]
		}
		checkAnyDisk(t, 1+d.below(3), disk)
	}
}

// The document leaves it free, but README says it: a lattice that is not of the
// node's width, or that is spoiled, is refused, not taken for none.
func TestOpenRefusesWhatItCannotRead(t *testing.T) {
	for n := 1; n <= 3; n++ {
		for _, disk := range usedDisks(t, n) {
			for m := 1; m <= 3; m++ {
				if x, w, e := lattice.Open(m, disk); m != n && (x != nil || w != nil || e != api.ErrDisk) {
					t.Errorf("of width %d over a disk of width %d: %v, %v, %d, want ErrDisk", m, n, x, w, e)
				}
			}
		}
	}
	disk := behind(usedDisks(t, 2)[0], []api.Write{{Block: 0, Data: "a letter"}})
	if x, w, e := lattice.Open(2, disk); x != nil || w != nil || e != api.ErrDisk {
		t.Errorf("over %q: %v, %v, %d, want ErrDisk", disk, x, w, e)
	}
}
