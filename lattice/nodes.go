package lattice

import (
	"lattice/api"
	"lattice/span"
	"lattice/text"
)

// spanKept reads what a disk keeps. Nothing is kept until the lattice has grown
// for the first time.
func spanKept(n int, kept string) (span.Span, bool) {
	if kept == "" {
		return span.Span{}, true
	}
	m, s, ok := text.Read(kept)
	if !ok || m != n {
		return span.Span{}, false
	}
	return s, true
}

// grow makes s the node's lattice, and tells the writes for it.
func (x *Node) grow(s span.Span) ([]api.Write, api.Errno) {
	if !s.Fits() {
		return nil, api.ErrBound
	}
	if s == x.held {
		return nil, api.OK
	}
	shown := text.Of(x.width, s)
	writes := x.free.Save(shown)
	x.held = s
	x.free = x.free.Other()
	return writes, api.OK
}
