// Package node is a node of a chain: what it makes of requests, with its book.
package node

import (
	"auditbook/api"
	"auditbook/book"
	"auditbook/entry"
	"auditbook/packet"
	"auditbook/sign"
	"auditbook/volume"
)

// Node stands at a place, and has a book.
type Node struct {
	place
	*book.Book
	known  int // entries that a node which is not the last knows to be in all logs
	failed bool
}

// Open makes a node of the book on a device.
func Open(d api.Device, role, last int, seed string, height int) (*Node, error) {
	v, err := volume.Of(d)
	if err != nil {
		return nil, err
	}
	p := place{role: role, last: last}
	if !p.fits() {
		return nil, api.ErrRole
	}
	if !sign.Fits(seed, height) {
		return nil, api.ErrSeed
	}
	b, err := book.Open(v)
	if err != nil {
		return nil, err
	}
	return &Node{place: p, Book: b}, nil
}

// See tells what can be seen of a node; of one that has failed nothing, since its device may have more than it knows.
func (x *Node) See() api.State {
	if x.failed {
		return api.State{}
	}
	return api.State{Log: x.Entries(), Acked: x.acked(), Records: x.Records()}
}

// acked is how many entries are known to be in all logs.
func (x *Node) acked() int {
	if x.isLast() {
		return x.Entries()
	}
	return x.known
}

// Request takes a client's request, and gives the packets that it leads to.
func (x *Node) Request(r api.Request) ([]api.Packet, error) {
	if x.failed {
		return nil, api.ErrFailed
	}
	if !x.isFirst() {
		return nil, api.ErrRole
	}
	if !entry.Whole(r) {
		return nil, api.ErrRequest
	}
	last := x.Last(r.Client)
	if last == 0 || r.No > x.Entry(last).No {
		return x.take(r)
	}
	if r.No < x.Entry(last).No {
		return nil, api.ErrOld
	}
	return x.again(last), nil
}

// again gives what comes out for entry n if its client asks once more.
func (x *Node) again(n int) []api.Packet {
	if n <= x.acked() {
		return []api.Packet{packet.Answer(x.Entry(n))}
	}
	return x.forwards(x.acked() + 1)
}

// forwards hands on the entries from n on, a few at a time.
func (x *Node) forwards(n int) []api.Packet {
	var sent []api.Packet
	for ; n <= x.Entries() && len(sent) < api.MaxAhead; n++ {
		sent = append(sent, x.forward(n))
	}
	return sent
}

func (x *Node) forward(n int) api.Packet {
	return packet.Forward(x.next(), n, x.Entry(n).Request)
}

// take makes a request a new entry.
func (x *Node) take(r api.Request) ([]api.Packet, error) {
	if x.Full() {
		return nil, api.ErrFull
	}
	if err := x.Take(r); err != nil {
		x.failed = true
		return nil, err
	}
	n := x.Entries()
	if x.isLast() {
		return []api.Packet{packet.Answer(x.Entry(n))}, nil
	}
	return []api.Packet{x.forward(n)}, nil
}
