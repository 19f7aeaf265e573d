package node

import (
	"auditbook/api"
	"auditbook/packet"
)

// Receive takes a packet from another node, and gives the packets that it leads to.
func (x *Node) Receive(b string) ([]api.Packet, error) {
	if x.failed {
		return nil, api.ErrFailed
	}
	switch p := packet.Decode(b).(type) {
	case packet.Forward:
		return x.takeForward(p)
	case packet.Ack:
		return x.takeAck(p)
	case packet.Ask:
		return x.takeAsk(p)
	default:
		return nil, api.ErrCode
	}
}

func (x *Node) takeForward(f packet.Forward) ([]api.Packet, error) {
	if x.isFirst() {
		return nil, api.ErrRole
	}
	// One that is refused tells as well as any other that the node ahead is there.
	x.heard = true
	switch has := x.Entries(); {
	case f.N <= has:
		return []api.Packet{x.ack()}, nil
	case f.N-1 > has:
		return []api.Packet{x.ask()}, nil
	case f.No <= x.LastNo(f.Client):
		return nil, api.ErrRequest
	}
	return x.take(f.Request)
}

func (x *Node) takeAck(a packet.Ack) ([]api.Packet, error) {
	if x.isLast() {
		return nil, api.ErrRole
	}
	if a.N <= x.known || a.N > x.Entries() {
		return nil, nil
	}
	x.known = a.N
	if x.isFirst() {
		return nil, nil
	}
	return []api.Packet{x.ack()}, nil
}

func (x *Node) takeAsk(a packet.Ask) ([]api.Packet, error) {
	if x.isLast() {
		return nil, api.ErrRole
	}
	return x.forwardsBehind(a.N), nil
}

// Tick gives the packets that go out again and again, since any of them may be lost.
func (x *Node) Tick() ([]api.Packet, error) {
	if x.failed {
		return nil, api.ErrFailed
	}
	var sent []api.Packet
	if !x.isFirst() && !x.heard {
		sent = append(sent, x.ask())
	}
	if !x.isLast() {
		sent = append(sent, x.forwardsBehind(x.acked())...)
	}
	return sent, nil
}

// forwardsBehind hands on the entries behind the first n, a few at a time.
func (x *Node) forwardsBehind(n int) []api.Packet {
	var sent []api.Packet
	for n < x.Entries() && len(sent) < api.MaxAhead {
		n++
		sent = append(sent, x.forward(n))
	}
	return sent
}

func (x *Node) forward(n int) api.Packet {
	return packet.To(x.next(), packet.Forward{N: n, Request: x.Entry(n).Request})
}

// ack tells the node ahead how many entries are in all logs.
func (x *Node) ack() api.Packet {
	return packet.To(x.ahead(), packet.Ack{N: x.acked()})
}

// ask asks the node ahead for what this one has not got.
func (x *Node) ask() api.Packet {
	return packet.To(x.ahead(), packet.Ask{N: x.Entries()})
}

// answer tells the client of entry n what that did.
func (x *Node) answer(n int) api.Packet {
	e := x.Entry(n)
	return packet.To(packet.Client(e.Client), packet.Answer{No: e.No, Answer: e.Answer})
}
