// Package auditor follows a book from outside: by its signed heads, and by proofs.
package auditor

import (
	"strings"

	"auditbook/api"
	"auditbook/event"
	"auditbook/head"
	"auditbook/sign"
	"auditbook/tree"
)

// Auditor trusts a head, and takes another one only if it is signed with the public key, and the book has grown to it.
type Auditor struct {
	key     string
	height  int
	trusted head.Head
}

// New trusts the empty book; ErrSeed tells that the public key or the height is none.
func New(key string, height int) (*Auditor, error) {
	if !sign.Fits(key, height) {
		return nil, api.ErrSeed
	}
	nothing := head.Head{Root: tree.Root(nil)}
	// The key is kept, and must not be the caller's.
	return &Auditor{key: strings.Clone(key), height: height, trusted: nothing}, nil
}

// Trusted is how many events are trusted, and the root over them.
func (a *Auditor) Trusted() (int, string) { return a.trusted.Size, a.trusted.Root.Text() }

// Advance trusts a signed head from now on, if the proof leads to it; else it tells by an error what is wrong.
func (a *Auditor) Advance(signed string, proof []string) error {
	if len(signed) != head.Length+sign.Size(a.height) {
		return api.ErrCode
	}
	msg, sig := signed[:head.Length], signed[head.Length:]
	next, ok := head.Decode(msg)
	if !ok {
		return api.ErrCode
	}
	if _, err := sign.Check(a.key, a.height, msg, sig); err != nil {
		return err
	}
	if err := checkGrowth(a.trusted, next, proof); err != nil {
		return err
	}
	a.trusted = next
	return nil
}

// checkGrowth tells by nil that the book of one head has grown to that of the next.
func checkGrowth(old, next head.Head, proof []string) error {
	if next.Size < old.Size {
		return api.ErrIndex
	}
	// Two roots over as many events, both signed, are worse than a proof that is none: there are two books.
	if next.Size == old.Size && next.Root != old.Root {
		return api.ErrFork
	}
	return tree.CheckConsistency(old.Size, next.Size, old.Root.Text(), next.Root.Text(), proof)
}

// Confirm tells by nil that these bytes are of an event, which stands at place i of the book that is trusted; else by an error what is wrong.
func (a *Auditor) Confirm(b string, i int, proof []string) error {
	if _, err := event.Decode(b); err != nil {
		return err
	}
	return tree.CheckInclusion(b, i, a.trusted.Size, a.trusted.Root.Text(), proof)
}
