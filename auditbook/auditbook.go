// Package auditbook: records, and a book of all that was done to them: see DOC.md.
package auditbook

import (
	"auditbook/api"
	"auditbook/auditor"
	"auditbook/event"
	"auditbook/hash"
	"auditbook/journal"
	"auditbook/node"
	"auditbook/sign"
	"auditbook/tree"
	"auditbook/volume"
)

// Sum is SHA-256 (P3).
func Sum(s string) string { return hash.Of(s).Text() }

// Encode writes an event (P4).
func Encode(e api.Event) (string, error) { return event.Encode(e) }

// Decode reads one (P4).
func Decode(b string) (api.Event, error) { return event.Decode(b) }

// Root is the root of the tree over leaves (P5).
func Root(leaves []string) string { return tree.Root(leaves).Text() }

// Inclusion proves that a leaf is in the tree (P6).
func Inclusion(leaves []string, i int) ([]string, error) { return tree.Inclusion(leaves, i) }

// Consistency proves that the tree over the first leaves is within the tree over all (P6).
func Consistency(leaves []string, m int) ([]string, error) { return tree.Consistency(leaves, m) }

// CheckInclusion checks such a proof (P7).
func CheckInclusion(leaf string, i, n int, root string, proof []string) error {
	return tree.CheckInclusion(leaf, i, n, root, proof)
}

// CheckConsistency checks such a proof (P7).
func CheckConsistency(m, n int, first, second string, proof []string) error {
	return tree.CheckConsistency(m, n, first, second, proof)
}

// PublicKey is what signatures are checked by (P8).
func PublicKey(seed string, height int) (string, error) { return sign.PublicKey(seed, height) }

// Sign signs with key number k (P8).
func Sign(seed string, height, k int, msg string) (string, error) {
	return sign.Sign(seed, height, k, msg)
}

// Check checks a signature; the number of the key (P9).
func Check(key string, height int, msg, sig string) (int, error) {
	return sign.Check(key, height, msg, sig)
}

// Format lays an empty book on a device (P10).
func Format(d api.Device) error {
	v, err := volume.Of(d)
	if err != nil {
		return err
	}
	return journal.Format(v)
}

// Node is one of a chain.
type Node struct{ inner *node.Node }

// Open opens the book that is on a device, as node number role of a chain whose last one is last (P11).
func Open(d api.Device, role, last int, seed string, height int) (*Node, error) {
	inner, err := node.Open(d, role, last, seed, height)
	if err != nil {
		return nil, err
	}
	return &Node{inner: inner}, nil
}

// See tells all that can be seen (P11).
func (x *Node) See() api.State { return x.inner.See() }

// Request takes a client's request (P12 to P14).
func (x *Node) Request(r api.Request) ([]api.Packet, error) { return x.inner.Request(r) }

// Receive takes a packet (P15).
func (x *Node) Receive(b string) ([]api.Packet, error) { return x.inner.Receive(b) }

// Tick is one tick of the clock (P16).
func (x *Node) Tick() ([]api.Packet, error) { return x.inner.Tick() }

// Head is a signed head of the log (P17).
func (x *Node) Head() (string, error) { return x.inner.Head() }

// Event is an event of the log, with a proof that it is in the tree over the first n (P18).
func (x *Node) Event(i, n int) (string, []string, error) { return x.inner.Event(i, n) }

// Grown proves that the tree over the first m is within that over the first n (P18).
func (x *Node) Grown(m, n int) ([]string, error) { return x.inner.Grown(m, n) }

// Auditor trusts a head.
type Auditor struct{ inner *auditor.Auditor }

// NewAuditor trusts the empty log (P19).
func NewAuditor(key string, height int) (*Auditor, error) {
	inner, err := auditor.New(key, height)
	if err != nil {
		return nil, err
	}
	return &Auditor{inner: inner}, nil
}

// Trusted is what it trusts: a size, and a root (P19).
func (a *Auditor) Trusted() (int, string) { return a.inner.Trusted() }

// Advance takes a signed head, with a proof that the log has grown (P19).
func (a *Auditor) Advance(head string, proof []string) error { return a.inner.Advance(head, proof) }

// Confirm takes an event, with a proof that it is in the log (P19).
func (a *Auditor) Confirm(event string, i int, proof []string) error {
	return a.inner.Confirm(event, i, proof)
}
