package store

import (
	"strings"
	"testing"

	"lattice/api"
)

const noughts = "\x00\x00\x00\x00\x00\x00\x00\x00"

func blank() []string {
	return []string{noughts, noughts, noughts, noughts, noughts, noughts, noughts, noughts}
}

func behind(disk []string, writes []api.Write) []string {
	all := append([]string{}, disk...)
	for _, w := range writes {
		all[w.Block] = w.Data
	}
	return all
}

func checkLoad(t *testing.T, disk []string, text string, free Slot, ok bool) {
	t.Helper()
	gotText, gotFree, gotOk := Load(disk)
	if gotText != text || gotFree != free || gotOk != ok {
		t.Errorf("Load(%q) = %q, %v, %v, want %q, %v, %v", disk, gotText, gotFree, gotOk, text, free, ok)
	}
}

func TestBlank(t *testing.T) {
	checkLoad(t, blank(), "", Slot{}, true)
}

// Texts of every length that has room, one behind the other; between any two
// writes the text ahead counts, and nothing but that.
func TestSave(t *testing.T) {
	texts := []string{"x", strings.Repeat("\xff", 21), "", "\x00", strings.Repeat("\x00", 23), "lattice1lattice2"}
	for long := 0; long <= 23; long++ {
		texts = append(texts, strings.Repeat("ab", 12)[:long])
	}
	disk, text, free := blank(), "", Slot{}
	for _, next := range texts {
		writes := free.Save(next)
		if len(writes) < 1 || len(writes) > api.MaxWrites {
			t.Fatalf("%d writes", len(writes))
		}
		for k, w := range writes {
			if w.Block < 0 || w.Block >= api.Blocks || len(w.Data) != api.BlockSize {
				t.Fatalf("a write of block %d, %q", w.Block, w.Data)
			}
			checkLoad(t, behind(disk, writes[:k]), text, free, true)
		}
		disk, text, free = behind(disk, writes), next, free.Other()
		checkLoad(t, disk, text, free, true)
	}
}

// The power fails again and again, each time at another write: what is left of
// one text in a slot does not spoil the next one.
func TestSaveBehindFailures(t *testing.T) {
	disk := behind(blank(), Slot{}.Save("first of all"))
	text, free := "first of all", Slot{}.Other()
	for round := 0; round < 4; round++ {
		for _, next := range []string{strings.Repeat("z", 23), "y", strings.Repeat("x", 10)} {
			for k := 0; k < len(free.Save(next)); k++ {
				disk = behind(disk, free.Save(next)[:k])
				checkLoad(t, disk, text, free, true)
			}
		}
		next := strings.Repeat("w", 5*round+1)
		disk, text, free = behind(disk, free.Save(next)), next, free.Other()
		checkLoad(t, disk, text, free, true)
	}
}

func TestLoadRefuses(t *testing.T) {
	saved := behind(blank(), Slot{}.Save("a text"))
	for _, disk := range [][]string{nil, {}, saved[:7], append(blank(), noughts), make([]string, 8)} {
		checkLoad(t, disk, "", Slot{}, false)
	}
	for i := range saved {
		for _, block := range []string{"", saved[i][:7], saved[i] + "\x00"} {
			disk := append([]string{}, saved...)
			disk[i] = block
			checkLoad(t, disk, "", Slot{}, false)
		}
	}
	for _, mark := range []string{"lattice0", "lattice3", "LATTICE1", noughts[:7] + "\x01", "\x01" + noughts[:7]} {
		checkLoad(t, behind(saved, []api.Write{{Block: 0, Data: mark}}), "", Slot{}, false)
	}
	// longer than there is room for
	for long := 24; long < 256; long++ {
		first := []api.Write{{Block: 1, Data: string([]byte{byte(long)}) + "1234567"}}
		checkLoad(t, behind(saved, first), "", Slot{}, false)
	}
}
