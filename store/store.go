// Package store lays a text on a disk. The disk has two slots for a text, and
// ahead of them a block with a mark, which tells the slot that counts. A new
// text goes into the slot that does not count, and the mark is written last:
// until then the text ahead of it counts, and the power may fail between any
// two writes.
package store

import "lattice/api"

const (
	markBlock  = 0
	firstBlock = 1 // of the first slot
	slotBlocks = 3 // of each slot
	head       = 1 // bytes ahead of the text in a slot: how long it is

	// A blank disk has this mark: no slot counts yet, whatever stands in them,
	// since the power may have failed ahead of the first mark.
	noMark     = "\x00\x00\x00\x00\x00\x00\x00\x00"
	firstMark  = "lattice1"
	secondMark = "lattice2"
)

// Slot is one of the two places for a text. The zero Slot is the first one.
type Slot struct {
	second bool
}

// Other tells the slot that does not count where s does.
func (s Slot) Other() Slot {
	return Slot{second: !s.second}
}

func (s Slot) mark() string {
	if s.second {
		return secondMark
	}
	return firstMark
}

func (s Slot) block() int {
	if s.second {
		return firstBlock + slotBlocks
	}
	return firstBlock
}

// Load tells the text that counts (the empty string, if none does) and the slot
// for the next one; false, if these blocks are no disk, or none that was laid
// out here.
func Load(disk []string) (string, Slot, bool) {
	if !isDisk(disk) {
		return "", Slot{}, false
	}
	if disk[markBlock] == noMark {
		return "", Slot{}, true
	}
	counts, ok := marked(disk[markBlock])
	if !ok {
		return "", Slot{}, false
	}
	text, alsoOk := counts.textIn(disk)
	if !alsoOk {
		return "", Slot{}, false
	}
	return text, counts.Other(), true
}

func marked(mark string) (Slot, bool) {
	switch mark {
	case firstMark:
		return Slot{}, true
	case secondMark:
		return Slot{second: true}, true
	}
	return Slot{}, false
}

func isDisk(disk []string) bool {
	if len(disk) != api.Blocks {
		return false
	}
	for i := 0; i < len(disk); i++ {
		if len(disk[i]) != api.BlockSize {
			return false
		}
	}
	return true
}

func (s Slot) textIn(disk []string) (string, bool) {
	all := ""
	start := s.block()
	for i := start; i < start+slotBlocks && i < len(disk); i++ {
		all += disk[i]
	}
	if len(all) < head {
		return "", false
	}
	end := head + int(all[0])
	if end > len(all) {
		return "", false
	}
	return all[head:end], true
}

// Save tells the writes that lay a text into a slot that does not count yet, so
// that it counts. The text has room in a slot: a lattice's has 21 bytes at
// most.
func (s Slot) Save(text string) []api.Write {
	bytes := slotOf(text)
	start := s.block()
	writes := []api.Write{}
	for i := 0; i < slotBlocks; i++ {
		data := string(bytes[i*api.BlockSize : (i+1)*api.BlockSize])
		writes = append(writes, api.Write{Block: start + i, Data: data})
	}
	mark := s.mark()
	writes = append(writes, api.Write{Block: markBlock, Data: mark})
	return writes
}

// slotOf fills the slot up, so that nothing of an older text stays in it.
func slotOf(text string) []byte {
	bytes := []byte{byte(len(text))}
	bytes = append(bytes, text...)
	for len(bytes) < slotBlocks*api.BlockSize {
		bytes = append(bytes, 0)
	}
	return bytes
}
