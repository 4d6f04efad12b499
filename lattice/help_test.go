package lattice_test

import "math/big"

type table = [][]int

func same(a, b table) bool {
	if len(a) != len(b) {
		return false
	}
	for i := range a {
		if !sameRow(a[i], b[i]) {
			return false
		}
	}
	return true
}

func sameRow(a, b []int) bool {
	if len(a) != len(b) {
		return false
	}
	for i := range a {
		if a[i] != b[i] {
			return false
		}
	}
	return true
}

// dice throws the same numbers on every run.
type dice struct{ state uint64 }

func (d *dice) below(n int) int {
	d.state = d.state*6364136223846793005 + 1442695040888963407
	return int((d.state >> 33) % uint64(n))
}

func (d *dice) within(most int) int { return d.below(2*most+1) - most }

// canonical works the basis out in numbers without bound, on all rows at once:
// another way than the program's, to hold its answers against.
func canonical(n int, rows table) [][]*big.Int {
	var m [][]*big.Int
	for _, r := range rows {
		var row []*big.Int
		for _, x := range r {
			row = append(row, big.NewInt(int64(x)))
		}
		m = append(m, row)
	}
	top := 0
	for c := 0; c < n; c++ {
		if settle(m, top, c) {
			for i := 0; i < top; i++ {
				q := new(big.Int).Div(m[i][c], m[top][c]) // Euclid's: rounds down, the pivot being positive
				takeAway(m[i], q, m[top])
			}
			top++
		}
	}
	return m[:top]
}

// settle brings the greatest common divisor of column c, from row top on, into
// row top, and 0 into the rows behind it; false if there is nothing but 0.
func settle(m [][]*big.Int, top, c int) bool {
	for {
		least := -1
		for i := top; i < len(m); i++ {
			if m[i][c].Sign() != 0 && (least < 0 || m[i][c].CmpAbs(m[least][c]) < 0) {
				least = i
			}
		}
		if least < 0 {
			return false
		}
		m[top], m[least] = m[least], m[top]
		if m[top][c].Sign() < 0 {
			for _, x := range m[top] {
				x.Neg(x)
			}
		}
		done := true
		for i := top + 1; i < len(m); i++ {
			q := new(big.Int).Div(m[i][c], m[top][c])
			takeAway(m[i], q, m[top])
			done = done && m[i][c].Sign() == 0
		}
		if done {
			return true
		}
	}
}

func takeAway(row []*big.Int, q *big.Int, other []*big.Int) {
	for j := range row {
		row[j].Sub(row[j], new(big.Int).Mul(q, other[j]))
	}
}

// fitting tells the rows as plain numbers, and whether none is beyond 511.
func fitting(m [][]*big.Int) (table, bool) {
	most := big.NewInt(511)
	var t table
	for _, r := range m {
		var row []int
		for _, x := range r {
			if x.CmpAbs(most) > 0 {
				return nil, false
			}
			row = append(row, int(x.Int64()))
		}
		t = append(t, row)
	}
	return t, true
}

// holds tells whether v is in the lattice of rows: just if v leaves the
// canonical basis as it is.
func holds(n int, rows table, v []int) bool {
	more := append(append(table{}, rows...), v)
	a, b := canonical(n, rows), canonical(n, more)
	if len(a) != len(b) {
		return false
	}
	for i := range a {
		for j := range a[i] {
			if a[i][j].Cmp(b[i][j]) != 0 {
				return false
			}
		}
	}
	return true
}

// throw makes rows of some kind: any, at the edge of what may go in, all
// multiples of some number, or sums of two vectors alone.
func throw(d *dice, n int) table {
	count := d.below(7)
	kind := d.below(5)
	step := 1 + d.below(40)
	p, q := make([]int, n), make([]int, n)
	for j := 0; j < n; j++ {
		p[j], q[j] = d.within(50), d.within(50)
	}
	var rows table
	for i := 0; i < count; i++ {
		a, b := d.within(5), d.within(5)
		row := make([]int, n)
		for j := range row {
			switch kind {
			case 0:
				row[j] = d.within(511)
			case 1:
				row[j] = (511 - d.below(3)) * (2*d.below(2) - 1)
			case 2:
				row[j] = step * d.within(511/step)
			case 3:
				row[j] = a*p[j] + b*q[j]
			case 4:
				row[j] = d.within(9)
			}
		}
		rows = append(rows, row)
	}
	return rows
}
