// Package packet has what nodes send, and reads what they send to each other.
package packet

import (
	"auditbook/api"
	"auditbook/entry"
	"auditbook/word"
)

const (
	answerMark  = 'A'
	forwardMark = 'F'
	ackMark     = 'K'
	askMark     = 'Q'
	headSize    = 1 + word.Size
	clientsAt   = 10
)

// Packet is what is sent: a Forward, an Ack or an Ask to a node, an Answer to a client.
type Packet interface{ Bytes() string }

// Forward hands on entry N, from 1 on.
type Forward struct {
	N int
	api.Request
}

// Ack tells that the first N entries are in all logs.
type Ack struct{ N int }

// Ask asks for the entries behind the first N.
type Ask struct{ N int }

// Answer tells what the client's request No did.
type Answer struct {
	No int
	api.Answer
}

func (f Forward) Bytes() string { return numbered(forwardMark, f.N) + entry.Encode(f.Request) }

func (a Ack) Bytes() string { return numbered(ackMark, a.N) }

func (a Ask) Bytes() string { return numbered(askMark, a.N) }

func (a Answer) Bytes() string {
	told := []byte{byte(a.Code), byte(a.Version), byte(len(a.Text))}
	return numbered(answerMark, a.No) + string(told) + a.Text
}

// numbered is what every packet begins with.
func numbered(mark byte, n int) string {
	return string(word.Append([]byte{mark}, uint32(n)))
}

// To makes a packet ready for an address: that of a node is the node's number.
func To(address int, p Packet) api.Packet { return api.Packet{To: address, Bytes: p.Bytes()} }

// Client is the address of a client.
func Client(client int) int { return clientsAt + client }

// Decode gives the packet to a node that has these bytes, or nil if there is none.
func Decode(b string) Packet {
	if len(b) < headSize {
		return nil
	}
	mark, number, rest := b[0], word.Read([]byte(b[1:headSize])), b[headSize:]
	if number > api.MaxNumber {
		return nil
	}
	n := int(number)
	switch {
	case mark == forwardMark && n > 0:
		if r, ok := entry.Decode(rest); ok {
			return Forward{N: n, Request: r}
		}
	case mark == ackMark && rest == "":
		return Ack{N: n}
	case mark == askMark && rest == "":
		return Ask{N: n}
	}
	return nil
}
