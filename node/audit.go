package node

import (
	"strings"

	"auditbook/api"
	"auditbook/head"
	"auditbook/sign"
	"auditbook/tree"
)

// Head gives a signed head over all entries: the same one again, until an entry comes behind it, so that no key is spent for nothing.
func (x *Node) Head() (string, error) {
	if x.failed {
		return "", api.ErrFailed
	}
	if !x.isLast() {
		return "", api.ErrRole
	}
	if x.head == "" || x.headSize != x.Entries() {
		if err := x.signHead(); err != nil {
			return "", err
		}
	}
	// The head is kept, and must not be the caller's.
	return strings.Clone(x.head), nil
}

// signHead makes a new head, with a key that has signed nothing.
func (x *Node) signHead() error {
	key := x.Keys()
	if key >= sign.KeyCount(x.height) {
		return api.ErrKeys
	}
	// Two signatures with one key give away enough of it for a third one, by anybody: it must be known as used, whatever happens, ahead of the first.
	if err := x.write(x.UseKey); err != nil {
		return err
	}
	size := x.Entries()
	msg := head.Head{Size: size, Root: tree.Root(x.Events(size))}.Bytes()
	sig, err := sign.Sign(x.seed, x.height, key, msg)
	if err != nil {
		return err
	}
	x.head, x.headSize = msg+sig, size
	return nil
}

// Event gives the bytes of event i, and a proof that it is among the first n.
func (x *Node) Event(i, n int) (string, []string, error) {
	first, err := x.firstEvents(n)
	if err != nil {
		return "", nil, err
	}
	proof, err := tree.Inclusion(first, i)
	if err != nil {
		return "", nil, err
	}
	return first[i], proof, nil
}

// Grown proves that the first n events are the growth of the first m.
func (x *Node) Grown(m, n int) ([]string, error) {
	first, err := x.firstEvents(n)
	if err != nil {
		return nil, err
	}
	return tree.Consistency(first, m)
}

// firstEvents gives the bytes of the first n events, or tells why nobody gets them here.
func (x *Node) firstEvents(n int) ([]string, error) {
	if !x.isLast() {
		return nil, api.ErrRole
	}
	if n < 0 || n > x.Entries() {
		return nil, api.ErrIndex
	}
	return x.Events(n), nil
}
