package lattice_test

import (
	"testing"

	"lattice/api"
	"lattice/lattice"
)

const mark = 7777

// roomy copies rows into lists with spare room, all of it marked.
func roomy(rows table) table {
	all := make(table, len(rows)+3)
	for i := range all {
		all[i] = []int{mark, mark}
	}
	for i, r := range rows {
		all[i] = roomyRow(r)
	}
	return all[:len(rows)]
}

func roomyRow(r []int) []int {
	all := make([]int, len(r)+3)
	for i := range all {
		all[i] = mark
	}
	copy(all, r)
	return all[:len(r)]
}

// whole tells a list with its spare room, each row with its own.
func whole(rows table) table {
	var all table
	for _, r := range rows[:cap(rows)] {
		all = append(all, append([]int{}, r[:cap(r)]...))
	}
	return all
}

var owned = []struct {
	n    int
	rows table
	v    []int
}{
	{1, table{{6}, {-10}, {15}}, []int{-3}},
	{2, table{{3, 1}, {1, 3}}, []int{2, -2}},
	{2, table{{1, 3}, {0, 8}}, []int{2, 0}}, // canonical already
	{3, table{{0, 0, -6}, {6, -2, 4}, {-3, 1, 0}}, []int{3, -1, 2}},
	{3, table{{1, -1, 0}, {0, 3, -1}, {0, 0, 2}, {0, 0, 0}, {0, 0, 4}, {2, 2, 2}}, []int{-511, 511, 0}},
	{3, nil, []int{0, 0, 0}},
	{3, table{{0, 0, 0}}, []int{1, 0, 0}},
	{2, table{{511, 510}, {510, 511}}, []int{-1, 1}}, // ErrBound
	{2, table{{511, 510}, {510, 512}}, []int{-1, 1}}, // ErrVector
	{2, table{{-4, 2}, {1}}, []int{-1}},              // ErrVector
	{4, table{{-4, 2, 1, 0}}, []int{-1, 0, 0, 0}},    // ErrWidth
}

func TestP2NothingHandedInIsWrittenInto(t *testing.T) {
	for _, c := range owned {
		rows, v := roomy(c.rows), roomyRow(c.v)
		rowsAhead, vAhead := whole(rows), whole(table{v})
		lattice.Basis(c.n, rows)
		lattice.Has(c.n, rows, v)
		lattice.Index(c.n, rows)
		lattice.Encode(c.n, rows)
		if !same(whole(rows), rowsAhead) {
			t.Errorf("P2: %v has become %v", rowsAhead, whole(rows))
		}
		if !same(whole(table{v}), vAhead) {
			t.Errorf("P2: %v has become %v", vAhead, whole(table{v}))
		}
	}
}

func TestP2NothingHandedInIsKept(t *testing.T) {
	for _, c := range owned {
		rows := roomy(c.rows)
		b, e := lattice.Basis(c.n, rows)
		ahead := copied(b)
		scribble(rows)
		if !same(b, ahead) {
			t.Errorf("P2: rows were written into, and Basis' %v has become %v", ahead, b)
		}
		again, f := lattice.Basis(c.n, c.rows)
		if f != e || !same(again, ahead) {
			t.Errorf("P2: Basis(%d, %v) = %v, %d, and later %v, %d", c.n, c.rows, ahead, e, again, f)
		}
	}
}

func TestP2WhatComesOutIsTheCallers(t *testing.T) {
	for _, c := range owned {
		rows := roomy(c.rows)
		rowsAhead := whole(rows)
		b, e := lattice.Basis(c.n, rows)
		other, _ := lattice.Basis(c.n, rows)
		ahead := copied(b)
		scribble(b)
		if !same(other, ahead) {
			t.Errorf("P2: one answer was written into, and the other is %v, not %v", other, ahead)
		}
		if !same(whole(rows), rowsAhead) {
			t.Errorf("P2: the answer was written into, and %v has become %v", rowsAhead, whole(rows))
		}
		again, f := lattice.Basis(c.n, rows)
		if f != e || !same(again, ahead) {
			t.Errorf("P2: the answer was written into, and Basis(%d, %v) = %v, %d, not %v, %d", c.n, c.rows, again, f, ahead, e)
		}
	}
}

func TestP2NoTwoRowsShare(t *testing.T) {
	for _, c := range owned {
		b, _ := lattice.Basis(c.n, c.rows)
		if anyShare(b) {
			t.Errorf("P2: two rows of Basis(%d, %v) share their room", c.n, c.rows)
		}
	}
	for _, c := range texts {
		_, b, _ := lattice.Decode(c.s)
		_, other, _ := lattice.Decode(c.s)
		lists := append(append(table{}, b...), other...)
		if anyShare(lists) {
			t.Errorf("P2: two rows of Decode(%q) share their room", c.s)
		}
	}
}

// anyShare tells whether what is written into one list is seen in another.
func anyShare(lists table) bool {
	for i, r := range lists {
		for j := range r[:cap(r)] {
			r[:cap(r)][j] = 1000*i + j
		}
	}
	for i, r := range lists {
		for j, x := range r[:cap(r)] {
			if x != 1000*i+j {
				return true
			}
		}
	}
	return false
}

// What Encode told hangs on the rows no longer, once it is told.
func TestP2EncodeKeepsNothing(t *testing.T) {
	for _, c := range owned {
		rows := roomy(c.rows)
		s, e := lattice.Encode(c.n, rows)
		ahead := string(append([]byte{}, s...))
		scribble(rows)
		again, f := lattice.Encode(c.n, c.rows)
		if s != ahead || again != ahead || f != e {
			t.Errorf("P2: Encode(%d, %v) = %q, %d; later it is %q, and %q, %d", c.n, c.rows, ahead, e, s, again, f)
		}
	}
}

func TestP2WhatDecodeTellsIsTheCallers(t *testing.T) {
	for _, c := range texts {
		s := string([]byte(c.s))
		_, b, _ := lattice.Decode(s)
		_, other, _ := lattice.Decode(s)
		scribble(b)
		if !same(other, c.basis) {
			t.Errorf("P2: one answer was written into, and the other is %v, not %v", other, c.basis)
		}
		if _, again, e := lattice.Decode(s); s != c.s || e != api.OK || !same(again, c.basis) {
			t.Errorf("P2: the answer was written into, and Decode(%q) = %v, %d, not %v", s, again, e, c.basis)
		}
	}
}

// P2: nothing of the texts that were joined ahead is left in a later answer.
func TestP2TextsHangOnArgumentsAlone(t *testing.T) {
	type answer struct {
		s    string
		y    bool
		e, f api.Errno
	}
	ask := func(i int) answer {
		c := texts[i/len(texts)]
		o := texts[i%len(texts)]
		s, e := lattice.Join(c.s, o.s)
		y, f := lattice.Within(c.s, o.s)
		return answer{s, y, e, f}
	}
	var first []answer
	for i := 0; i < len(texts)*len(texts); i++ {
		first = append(first, ask(i))
	}
	for i := len(first) - 1; i >= 0; i-- {
		if a := ask(i); a != first[i] {
			t.Errorf("P2: of %q and %q it is %v, and was %v", texts[i/len(texts)].s, texts[i%len(texts)].s, a, first[i])
		}
	}
}

// P2: an answer hangs on the arguments alone, not on the calls ahead of it.
func TestP2AnswersHangOnArgumentsAlone(t *testing.T) {
	type answer struct {
		b    table
		y    bool
		m    int
		e, f api.Errno
	}
	ask := func(i int) answer {
		c := owned[i]
		b, e := lattice.Basis(c.n, c.rows)
		y, f := lattice.Has(c.n, c.rows, c.v)
		m, _ := lattice.Index(c.n, c.rows)
		return answer{b, y, m, e, f}
	}
	var first []answer
	for i := range owned {
		first = append(first, ask(i))
	}
	for i := len(owned) - 1; i >= 0; i-- {
		a := ask(i)
		if !same(a.b, first[i].b) || a.y != first[i].y || a.m != first[i].m || a.e != first[i].e || a.f != first[i].f {
			t.Errorf("P2: of %v it is %v, and was %v", owned[i], a, first[i])
		}
	}
}

func copied(rows table) table {
	var all table
	for _, r := range rows {
		all = append(all, append([]int{}, r...))
	}
	return all
}

// scribble writes into all that the caller may write into.
func scribble(rows table) {
	for _, r := range rows {
		for j := range r[:cap(r)] {
			r[:cap(r)][j] = -mark
		}
	}
	for i := range rows[:cap(rows)] {
		rows[:cap(rows)][i] = []int{-mark}
	}
}
