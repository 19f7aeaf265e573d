// Package node is a node of a chain: what it makes of requests and packets, with its book.
package node

import (
	"strings"

	"auditbook/api"
	"auditbook/book"
	"auditbook/entry"
	"auditbook/sign"
	"auditbook/volume"
)

// Node stands at a place, and has a book.
type Node struct {
	place
	*book.Book
	seed     string
	height   int
	known    int  // entries that a node which is not the last knows to be in all logs
	heard    bool // a Forward has come
	failed   bool
	head     string // the last one that was signed since Open, or none
	headSize int    // entries that it is over
}

// Open makes a node of the book on a device.
func Open(d api.Device, role, last int, seed string, height int) (*Node, error) {
	v, err := volume.Of(d)
	if err != nil {
		return nil, err
	}
	p := place{role: role, last: last}
	if !p.fits() {
		return nil, api.ErrRole
	}
	if !sign.Fits(seed, height) {
		return nil, api.ErrSeed
	}
	b, err := book.Open(v)
	if err != nil {
		return nil, err
	}
	// The seed is kept, and must not be the caller's.
	return &Node{place: p, Book: b, seed: strings.Clone(seed), height: height}, nil
}

// See tells what can be seen of a node; of one that has failed nothing, since its device may have more than it knows.
func (x *Node) See() api.State {
	if x.failed {
		return api.State{}
	}
	return api.State{Log: x.Entries(), Acked: x.acked(), Records: x.Records(), Keys: x.Keys()}
}

// acked is how many entries are known to be in all logs.
func (x *Node) acked() int {
	if x.isLast() {
		return x.Entries()
	}
	return x.known
}

// Request takes a client's request, and gives the packets that it leads to.
func (x *Node) Request(r api.Request) ([]api.Packet, error) {
	if x.failed {
		return nil, api.ErrFailed
	}
	if !x.isFirst() {
		return nil, api.ErrRole
	}
	if !entry.Whole(r) {
		return nil, api.ErrRequest
	}
	no := x.LastNo(r.Client)
	if r.No < no {
		return nil, api.ErrOld
	}
	if r.No == no {
		return x.again(x.Last(r.Client)), nil
	}
	return x.take(r)
}

// again gives what comes out for entry n if its client asks once more.
func (x *Node) again(n int) []api.Packet {
	if n <= x.acked() {
		return []api.Packet{x.answer(n)}
	}
	return x.forwardsBehind(x.acked())
}

// take makes a request a new entry.
func (x *Node) take(r api.Request) ([]api.Packet, error) {
	if err := x.write(func() error { return x.Take(r) }); err != nil {
		return nil, err
	}
	n := x.Entries()
	if !x.isLast() {
		return []api.Packet{x.forward(n)}, nil
	}
	if x.isFirst() {
		return []api.Packet{x.answer(n)}, nil
	}
	return []api.Packet{x.ack(), x.answer(n)}, nil
}

// write does what puts one more thing into the book, if there is room; once that fails, nobody knows what the device has.
func (x *Node) write(do func() error) error {
	if x.Full() {
		return api.ErrFull
	}
	err := do()
	x.failed = err != nil
	return err
}
