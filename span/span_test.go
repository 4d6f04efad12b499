package span

import (
	"math/big"
	"testing"
)

func spanOf(rows ...Vector) Span {
	s := Span{}
	for _, r := range rows {
		s = s.With(r)
	}
	return s
}

// checkCanonical holds the rows against the document's words.
func checkCanonical(t *testing.T, s Span) {
	t.Helper()
	for c, row := range s.rows {
		if row[c] < 0 || row[c] == 0 && row != (Vector{}) {
			t.Fatalf("row %d of %v has no pivot in its column", c, s.rows)
		}
		for i := 0; i < c; i++ {
			if row[i] != 0 {
				t.Fatalf("row %d of %v has an entry ahead of its pivot", c, s.rows)
			}
			if row[c] > 0 && (s.rows[i][c] < 0 || s.rows[i][c] >= row[c]) {
				t.Fatalf("in %v what stands above pivot %d is not below it, or under 0", s.rows, c)
			}
		}
	}
}

// holds tells whether v is in s, in numbers without bound.
func holds(s Span, v Vector) bool {
	var left [3]*big.Int
	for i := range left {
		left[i] = big.NewInt(v[i])
	}
	for c, row := range s.rows {
		if row[c] == 0 {
			continue
		}
		q := new(big.Int).Quo(left[c], big.NewInt(row[c]))
		for i := range left {
			left[i].Sub(left[i], new(big.Int).Mul(q, big.NewInt(row[i])))
		}
	}
	return left[0].Sign() == 0 && left[1].Sign() == 0 && left[2].Sign() == 0
}

// pick tells all ways to take k of the numbers from 0 to n-1.
func pick(n, k int) [][]int {
	if k == 0 {
		return [][]int{nil}
	}
	var ways [][]int
	for last := k - 1; last < n; last++ {
		for _, w := range pick(last, k-1) {
			ways = append(ways, append(append([]int{}, w...), last))
		}
	}
	return ways
}

func determinant(rows []Vector, which, columns []int) *big.Int {
	if len(which) == 0 {
		return big.NewInt(1)
	}
	sum := new(big.Int)
	for i, c := range columns {
		others := append(append([]int{}, columns[:i]...), columns[i+1:]...)
		term := determinant(rows, which[1:], others)
		term.Mul(term, big.NewInt(rows[which[0]][c]))
		if i%2 == 1 {
			term.Neg(term)
		}
		sum.Add(sum, term)
	}
	return sum
}

// divisor tells the greatest common divisor of all minors of k rows.
func divisor(rows []Vector, k int) *big.Int {
	sum := new(big.Int)
	for _, which := range pick(len(rows), k) {
		for _, columns := range pick(3, k) {
			minor := determinant(rows, which, columns)
			sum.GCD(nil, nil, sum, minor.Abs(minor))
		}
	}
	return sum
}

// checkGenerated: what holds all of the rows, and has the same divisors of
// minors, is the lattice of the rows and no greater one.
func checkGenerated(t *testing.T, s Span, rows []Vector) {
	t.Helper()
	for _, r := range rows {
		if !holds(s, r) {
			t.Fatalf("%v of %v is not in %v", r, rows, s.rows)
		}
	}
	for k := 1; k <= 3; k++ {
		if divisor(s.rows[:], k).Cmp(divisor(rows, k)) != 0 {
			t.Fatalf("%v is not the lattice of %v: minors of %d rows", s.rows, rows, k)
		}
	}
}

// The lattices that do not fit count here too: the next vector may make one of
// them fit, and then nothing of them may have been lost.
func TestWithIsExact(t *testing.T) {
	state := uint64(1)
	below := func(n int64) int64 {
		state = state*6364136223846793005 + 1442695040888963407
		return int64((state >> 33) % uint64(n))
	}
	greatest := int64(0)
	for round := 0; round < 4000; round++ {
		spread := []int64{1, 4, 60, 511}[below(4)]
		edge := below(2) == 0
		var rows []Vector
		s := Span{}
		for k := 0; k < 6; k++ {
			var v Vector
			for i := range v {
				v[i] = below(2*spread+1) - spread
				if edge {
					v[i] = (511 - below(spread+1)) * (2*below(2) - 1)
				}
				if below(8) == 0 {
					v[i] = 0
				}
			}
			rows = append(rows, v)
			s = s.With(v)
			checkCanonical(t, s)
			checkGenerated(t, s, rows)
			greatest = max(greatest, s.rows[2][2])
		}
	}
	if greatest < 1<<27 {
		t.Errorf("no great lattice was tried: %d", greatest)
	}
}

// The greatest determinant that there is: 4 times 511*511*511.
func TestWithAtTheGreatest(t *testing.T) {
	rows := []Vector{{511, 511, 511}, {511, -511, 511}, {511, 511, -511}}
	s := spanOf(rows...)
	if got := s.Index(3); got != 4*511*511*511 {
		t.Errorf("Index = %d", got)
	}
	checkCanonical(t, s)
	checkGenerated(t, s, rows)
	for _, v := range []Vector{{511, 510, 509}, {-510, 511, 1}, {1, 511, -511}} {
		rows = append(rows, v)
		s = s.With(v)
		checkCanonical(t, s)
		checkGenerated(t, s, rows)
	}
}

// Rows that were sought for the greatest numbers in between.
func TestWithWhereNumbersInBetweenAreGreat(t *testing.T) {
	for _, rows := range [][]Vector{
		{{478, -499, 511}, {-476, -507, -511}, {495, 431, -511}, {-112, 275, -55}},
		{{504, 503, -511}, {506, -511, -511}, {495, 494, 511}, {319, 256, 175}, {-256, -447, 50}, {143, -273, -100}},
		{{508, 511, 296}, {510, -511, -511}, {510, -511, 511}, {-475, -410, -70}},
		{{500, 509, 511}, {502, -507, 511}, {507, 24, -511}, {-176, 401, -209}, {147, -90, 410}},
	} {
		s := Span{}
		for k, v := range rows {
			s = s.With(v)
			checkCanonical(t, s)
			checkGenerated(t, s, rows[:k+1])
		}
	}
}

func TestSameLatticeSameNumbers(t *testing.T) {
	a := spanOf(Vector{3, 1}, Vector{1, 3})
	if b := spanOf(Vector{0, -8}, Vector{1, -5}, Vector{0, 0}, Vector{-1, -3}); a != b {
		t.Errorf("%v and %v", a, b)
	}
	if c := spanOf(Vector{1, 3}); a == c {
		t.Errorf("%v and %v", a, c)
	}
	if spanOf(Vector{}) != (Span{}) {
		t.Errorf("the zero vector makes %v", spanOf(Vector{}))
	}
}

func TestFits(t *testing.T) {
	for _, c := range []struct {
		s    Span
		want bool
	}{
		{Span{}, true},
		{spanOf(Vector{511, 511, -511}), true},
		{spanOf(Vector{511}, Vector{0, 511}, Vector{0, 0, 511}), true},
		{spanOf(Vector{512}), false},
		{spanOf(Vector{1, 512}), false},
		{spanOf(Vector{1, 0, -512}), false},
		{spanOf(Vector{0, 512}), false},
		{spanOf(Vector{0, 1, -512}), false},
		{spanOf(Vector{0, 0, 512}), false},
	} {
		if c.s.Fits() != c.want {
			t.Errorf("Fits of %v is not %v", c.s, c.want)
		}
	}
}

func TestHasAndIndex(t *testing.T) {
	s := spanOf(Vector{2, 1, 0}, Vector{0, 3, 1}, Vector{0, 0, 5})
	if s.Index(3) != 30 || s.Index(2) != 6 || s.Index(1) != 2 {
		t.Errorf("Index = %d, %d, %d", s.Index(3), s.Index(2), s.Index(1))
	}
	for x := int64(-6); x <= 6; x++ {
		for y := int64(-6); y <= 6; y++ {
			for z := int64(-6); z <= 6; z++ {
				v := Vector{x, y, z}
				if s.Has(v) != holds(s, v) {
					t.Errorf("Has(%v) = %v", v, s.Has(v))
				}
			}
		}
	}
	if s.Index(0) != 1 || s.Index(9) != 30 || s.Index(-1) != 1 {
		t.Errorf("Index beyond the widths = %d, %d, %d", s.Index(0), s.Index(9), s.Index(-1))
	}
}

func TestRowsAndVectors(t *testing.T) {
	for _, c := range []struct {
		v    []int
		want Vector
	}{{nil, Vector{}}, {[]int{-4}, Vector{-4}}, {[]int{1, 2, 3}, Vector{1, 2, 3}}, {[]int{1, 2, 3, 4}, Vector{1, 2, 3}}} {
		if got := VectorOf(c.v); got != c.want {
			t.Errorf("VectorOf(%v) = %v", c.v, got)
		}
	}
	s := spanOf(Vector{-2, 1}, Vector{0, 0, 3})
	if got := s.Rows(3); len(got) != 2 || len(got[0]) != 3 || got[0][0] != 2 || got[0][1] != -1 || got[1][2] != 3 {
		t.Errorf("Rows(3) = %v", got)
	}
	if got := s.Rows(2); len(got) != 2 || len(got[0]) != 2 {
		t.Errorf("Rows(2) = %v", got)
	}
	if got := s.Rows(9); len(got) != 2 || len(got[1]) != 3 {
		t.Errorf("Rows(9) = %v", got)
	}
	if got := s.Rows(-1); len(got) != 2 || len(got[1]) != 0 {
		t.Errorf("Rows(-1) = %v", got)
	}
}

func TestJoinAndWithin(t *testing.T) {
	whole := spanOf(Vector{1}, Vector{0, 1}, Vector{0, 0, 1})
	all := []Span{
		{}, whole,
		spanOf(Vector{2, 1, 0}, Vector{0, 3, 1}, Vector{0, 0, 5}),
		spanOf(Vector{2, 1, 0}), spanOf(Vector{0, 3, 1}), spanOf(Vector{0, 0, 5}), spanOf(Vector{0, 6, 2}, Vector{0, 0, 5}),
		spanOf(Vector{511, 510}), spanOf(Vector{510, 511}), spanOf(Vector{511, -511, 511}),
	}
	for _, a := range all {
		for _, b := range all {
			var rows []Vector
			rows = append(rows, a.rows[:]...)
			rows = append(rows, b.rows[:]...)
			sum := a.Join(b)
			checkCanonical(t, sum)
			checkGenerated(t, sum, rows)
			if other := b.Join(a); other != sum {
				t.Errorf("%v and %v make %v, the other way round %v", a, b, sum, other)
			}
			if a.Within(b) != (sum == b) {
				t.Errorf("%v within %v is %v, and together they are %v", a, b, a.Within(b), sum)
			}
		}
	}
}
