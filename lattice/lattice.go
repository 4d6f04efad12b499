// Package lattice: sublattices of whole-number vectors, and nodes that keep one: see DOC.md.
package lattice

import (
	"lattice/api"
	"lattice/span"
	"lattice/store"
	"lattice/text"
)

// Basis tells the canonical basis of what vectors generate (P3).
func Basis(n int, rows [][]int) ([][]int, api.Errno) {
	s, e := generated(n, rows)
	if e != api.OK {
		return nil, e
	}
	return s.Rows(n), api.OK
}

// Has tells whether a vector is in what vectors generate (P4).
func Has(n int, rows [][]int, v []int) (bool, api.Errno) {
	if !isWidth(n) {
		return false, api.ErrWidth
	}
	// Ahead of the lattice, since ErrVector is named ahead of ErrBound.
	if !isVector(n, v, api.MaxBasis) {
		return false, api.ErrVector
	}
	s, e := generated(n, rows)
	if e != api.OK {
		return false, e
	}
	w := span.VectorOf(v)
	return s.Has(w), api.OK
}

// Index tells how many cosets there are (P5).
func Index(n int, rows [][]int) (int, api.Errno) {
	s, e := generated(n, rows)
	if e != api.OK {
		return 0, e
	}
	return s.Index(n), api.OK
}

// Encode writes the text of what vectors generate (P6).
func Encode(n int, rows [][]int) (string, api.Errno) {
	s, e := generated(n, rows)
	if e != api.OK {
		return "", e
	}
	return text.Of(n, s), api.OK
}

// Decode reads a text (P7).
func Decode(s string) (int, [][]int, api.Errno) {
	n, read, ok := text.Read(s)
	if !ok {
		return 0, nil, api.ErrText
	}
	return n, read.Rows(n), api.OK
}

// Join makes the sum of two lattices (P8).
func Join(s string, t string) (string, api.Errno) {
	p, e := readPair(s, t)
	if e != api.OK {
		return "", e
	}
	sum := p.first.Join(p.second)
	if !sum.Fits() {
		return "", api.ErrBound
	}
	return text.Of(p.width, sum), api.OK
}

// Within tells whether one lattice lies in another (P8).
func Within(s string, t string) (bool, api.Errno) {
	p, e := readPair(s, t)
	if e != api.OK {
		return false, e
	}
	return p.first.Within(p.second), api.OK
}

// Node keeps a lattice on a disk.
type Node struct {
	width int
	held  span.Span
	free  store.Slot // the slot of the disk that the next lattice goes into
}

// Open begins a node over a disk (P9, P12). It has nothing to write: the disk is
// left as it is until the lattice grows.
func Open(n int, disk []string) (*Node, []api.Write, api.Errno) {
	if !isWidth(n) {
		return nil, nil, api.ErrWidth
	}
	kept, free, ok := store.Load(disk)
	if !ok {
		return nil, nil, api.ErrDisk
	}
	held, alsoOk := spanKept(n, kept)
	if !alsoOk {
		return nil, nil, api.ErrDisk
	}
	return &Node{width: n, held: held, free: free}, nil, api.OK
}

// Show tells the text of the node's lattice (P9).
func (x *Node) Show() string {
	return text.Of(x.width, x.held)
}

// Add adds a vector (P10).
func (x *Node) Add(v []int) ([]api.Write, api.Errno) {
	if !isVector(x.width, v, api.MaxEntry) {
		return nil, api.ErrVector
	}
	w := span.VectorOf(v)
	sum := x.held.With(w)
	return x.grow(sum)
}

// Receive takes in what another node showed (P11).
func (x *Node) Receive(s string) ([]api.Write, api.Errno) {
	n, other, ok := text.Read(s)
	if !ok {
		return nil, api.ErrText
	}
	if n != x.width {
		return nil, api.ErrWidth
	}
	sum := x.held.Join(other)
	return x.grow(sum)
}
