package lattice_test

import (
	"testing"

	"lattice/api"
	"lattice/lattice"
)

type hearing struct {
	s    string
	want table
}

// heard are texts that one node hears one behind the other, and the lattice
// behind each of them.
var heard = []struct {
	n     int
	steps []hearing
}{
	{1, []hearing{
		{written(1, nil), nil},
		{written(1, table{{511}}), table{{511}}},
		{written(1, table{{511}}), table{{511}}},
		{"no text", table{{511}}},
		{written(2, table{{1, 0}}), table{{511}}},
		{written(1, table{{14}}), table{{7}}},
		{written(1, table{{510}}), table{{1}}},
	}},
	{2, []hearing{
		// the document's example
		{written(2, table{{4, 2}}), table{{4, 2}}},
		{written(2, table{{0, 2}}), table{{4, 0}, {0, 2}}},
		{written(3, table{{1, 0, 0}}), table{{4, 0}, {0, 2}}},

		{written(2, nil), table{{4, 0}, {0, 2}}},
		{written(2, table{{8, 4}}), table{{4, 0}, {0, 2}}},
		{written(2, table{{511, 511}}), table{{1, 1}, {0, 2}}},
		{written(2, table{{0, 511}}), table{{1, 0}, {0, 1}}},
	}},
	{3, []hearing{
		{written(3, table{{511, -511, 511}}), table{{511, -511, 511}}},
		{written(3, table{{511, 511, -511}}), table{{511, -511, 511}}}, // does not fit
		{written(3, table{{0, 0, 511}}), table{{511, -511, 0}, {0, 0, 511}}},
		{written(3, table{{0, 511, 510}}), table{{511, 0, 510}, {0, 511, 510}, {0, 0, 511}}},
		{"", table{{511, 0, 510}, {0, 511, 510}, {0, 0, 511}}},
		{written(3, table{{0, 0, 1}}), table{{511, 0, 0}, {0, 511, 0}, {0, 0, 1}}},
		{written(3, table{{1, 1, 1}}), table{{1, 1, 0}, {0, 511, 0}, {0, 0, 1}}},
	}},
}

// P12, with Receive as the last call.
func TestP12PowerFailsInReceive(t *testing.T) {
	for _, c := range heard {
		h := heldOver(t, c.n, blank(), nil)
		h.checkPower(t)
		for _, s := range c.steps {
			h.receive(t, s.s)
			h.checkPower(t)
			if got := shownOver(t, c.n, h.disk); got != written(c.n, s.want) {
				t.Errorf("P12: behind Receive(%q) a node over the disk shows %q, want the text of %v", s.s, got, s.want)
			}
		}
	}
}

// P12, with Add as the last call.
func TestP12PowerFailsInAdd(t *testing.T) {
	for _, c := range adds {
		h := heldOver(t, c.n, blank(), nil)
		h.checkPower(t)
		for _, s := range c.steps {
			h.add(t, s.v)
			h.checkPower(t)
			if got := shownOver(t, c.n, h.disk); got != written(c.n, s.want) {
				t.Errorf("P12: behind Add(%v) a node over the disk shows %q, want the text of %v", s.v, got, s.want)
			}
		}
	}
}

// idle are calls that write nothing, of a node of width n.
func idle(n int, shown string) []func(t *testing.T, h *held) {
	var all []func(t *testing.T, h *held)
	for _, v := range [][]int{[]int{0, 0, 0}[:n], []int{5, 0, 0}[:n], {0, 0, 0, 0}, nil} {
		all = append(all, func(t *testing.T, h *held) { h.add(t, v) })
	}
	for _, s := range []string{shown, written(n, nil), written(1+n%3, nil), "no text"} {
		all = append(all, func(t *testing.T, h *held) { h.receive(t, s) })
	}
	return all
}

// P12, with a call that wrote nothing as the last one, once and again, and with
// one that writes behind it.
func TestP12CallsThatWroteNothing(t *testing.T) {
	for n := 1; n <= 3; n++ {
		for _, disk := range append(cutDisks(t, n), blank()) {
			shown := shownOver(t, n, disk)
			_, basis, _ := reading(shown)
			for _, call := range idle(n, shown) {
				for times := 1; times <= 2; times++ {
					h := heldOver(t, n, disk, basis)
					for i := 0; i < times; i++ {
						call(t, h)
						h.checkPower(t)
					}
					h.add(t, []int{1, 1, 1}[:n])
					if len(h.last.writes) == 0 {
						t.Fatalf("P10: Add((1 1 1)) to %v writes nothing", basis)
					}
					h.checkPower(t)
				}
			}
		}
	}
}

// P12: an Open is the last call, of which some writes reach the disk, again and
// again.
func TestP12OpenAgainAndAgain(t *testing.T) {
	d := &dice{51}
	for n := 1; n <= 3; n++ {
		for _, disk := range append(cutDisks(t, n), blank()) {
			want := shownOver(t, n, disk)
			for i := 0; i < 40; i++ {
				x, w, e := lattice.Open(n, disk)
				if e != api.OK || x.Show() != want {
					t.Fatalf("P12: the %dth Open of width %d, over %q, has error %d, want %q", i, n, disk, e, want)
				}
				disk = behind(disk, w[:d.below(len(w)+1)])
			}
			_, basis, _ := reading(want)
			h := heldOver(t, n, disk, basis)
			h.add(t, []int{1, 2, 3}[:n])
			h.checkPower(t)
		}
	}
}

// P12: of three nodes, one begun over what another left, each is cut at every
// place, with one call or two.
func TestP12EveryPlaceThreeTimes(t *testing.T) {
	for n := 1; n <= 3; n++ {
		failEverywhere(t, heldOver(t, n, blank(), nil), [][]call{
			{{v: []int{4, 2, 4}[:n]}, {basis: table{[]int{510, 300, -511}[:n]}}},
			{{basis: table{[]int{508, 0, 4}[:n]}}, {v: []int{2, 4, -4}[:n]}},
			{{v: []int{0, 4, 2}[:n]}, {basis: table{[]int{1, 1, 1}[:n]}}},
		})
	}
}

func failEverywhere(t *testing.T, from *held, rounds [][]call) {
	t.Helper()
	if len(rounds) == 0 {
		return
	}
	first, second := rounds[0][0], rounds[0][1]
	for _, calls := range [][]call{{first}, {second}, {first, second}} {
		h := heldOver(t, from.n, from.disk, from.basis)
		for _, c := range calls {
			h.hand(t, c)
		}
		h.checkPower(t)
		for k := 0; k <= len(h.last.writes); k++ {
			failEverywhere(t, h.fail(t, k), rounds[1:])
		}
	}
}

// P12: one call is cut at each place in turn, and made once more behind each,
// until all its writes reach the disk.
func TestP12TheSameCallAgainAndAgain(t *testing.T) {
	for n := 1; n <= 3; n++ {
		h := heldOver(t, n, blank(), nil)
		for _, c := range halves(n) {
			for k := 0; ; k++ {
				h.hand(t, c)
				h.checkPower(t)
				if k >= len(h.last.writes) {
					break
				}
				h = h.fail(t, k)
			}
			if !same(h.basis, c.basis) {
				t.Fatalf("P11: a node that heard of %v has %v", c.basis, h.basis)
			}
		}
	}
}

// P12: a long life of one node, and one of many nodes over one disk.
func TestP12LongLife(t *testing.T) {
	for n := 1; n <= 3; n++ {
		one, many := heldOver(t, n, blank(), nil), heldOver(t, n, blank(), nil)
		for _, c := range halves(n) {
			one.hand(t, c)
			if len(one.last.writes) == 0 {
				t.Fatalf("P11: no write behind %v, with %v", one.basis, c.basis)
			}
			one.checkPower(t)
			many.hand(t, c)
			many = heldOver(t, n, many.disk, many.basis)
			many.checkPower(t)
			if a, b := shownOver(t, n, one.disk), shownOver(t, n, many.disk); a != b {
				t.Fatalf("P12: one node has left %q, many nodes %q", a, b)
			}
		}
	}
}

// P12: many calls of every kind, some refused, held against numbers without
// bound; the power fails at any moment, and a node goes on over what is left.
func TestP12AtAnyMoment(t *testing.T) {
	d := &dice{52}
	lost, kept := 0, 0
	for i := 0; i < 250; i++ {
		n := 1 + d.below(3)
		h := heldOver(t, n, blank(), nil)
		for k := 0; k < 25; k++ {
			switch d.below(4) {
			case 0:
				h.hand(t, call{basis: throwBasis(d, n)})
			case 1:
				h.hand(t, call{v: []int{5 * d.below(2), 0, 0}[:n]})
			default:
				// multiples, so that the lattice grows slowly
				v := throwSmall(d, n)
				for j := range v {
					v[j] &^= 3 >> uint(k/9)
				}
				h.hand(t, call{v: v})
			}
			h.checkPower(t)
			if d.below(2) == 0 {
				continue
			}
			grown := len(h.last.writes) > 0
			later := h.basis
			h = h.fail(t, d.below(len(h.last.writes)+1))
			if grown && same(h.basis, later) {
				kept++
			} else if grown {
				lost++
			}
		}
	}
	if lost < 100 || kept < 100 {
		t.Errorf("the dice are loaded: %d calls lost, %d kept", lost, kept)
	}
}
