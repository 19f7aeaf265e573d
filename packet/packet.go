// Package packet writes what nodes send.
package packet

import (
	"auditbook/api"
	"auditbook/entry"
	"auditbook/word"
)

const (
	answerMark  = 'A'
	forwardMark = 'F'
	clientsAt   = 10 // a client's address is its number behind this one
)

// Answer tells a client what its request did.
func Answer(e entry.Entry) api.Packet {
	b := numbered(answerMark, e.No)
	b = append(b, byte(e.Answer.Code), byte(e.Answer.Version), byte(len(e.Answer.Text)))
	b = append(b, e.Answer.Text...)
	return api.Packet{To: clientsAt + e.Client, Bytes: string(b)}
}

// Forward hands entry n to a node.
func Forward(to, n int, r api.Request) api.Packet {
	b := append(numbered(forwardMark, n), entry.Encode(r)...)
	return api.Packet{To: to, Bytes: string(b)}
}

// numbered is what every packet begins with.
func numbered(mark byte, n int) []byte {
	return word.Append([]byte{mark}, uint32(n))
}
