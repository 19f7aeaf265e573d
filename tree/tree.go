// Package tree makes trees of hashes over leaves and proofs of what is in them, and checks such proofs.
package tree

import (
	"math/bits"

	"auditbook/hash"
)

// What a hash is made of begins with one of these, so that no leaf can pass for two trees.
const (
	leafMark = "\x00"
	joinMark = "\x01"
)

// Root is the hash at the top of the tree over the leaves.
func Root(leaves []string) hash.Hash {
	switch len(leaves) {
	case 0:
		return hash.Of()
	case 1:
		return rootOfOne(leaves[0])
	}
	k := split(len(leaves))
	return join(Root(leaves[:k]), Root(leaves[k:]))
}

func rootOfOne(leaf string) hash.Hash { return hash.Of(leafMark, leaf) }

// join is the root of two trees side by side.
func join(left, right hash.Hash) hash.Hash {
	return hash.Of(joinMark, left.Text(), right.Text())
}

// split is the greatest power of 2 below n, which is more than 1: so many leaves of n are on the left side.
func split(n int) int { return 1 << (bits.Len(uint(n-1)) - 1) }
