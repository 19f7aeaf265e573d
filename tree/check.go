package tree

import (
	"auditbook/api"
	"auditbook/hash"
)

// CheckInclusion tells by nil that the proof leads from the leaf, at place i of n, to the root; else by ErrIndex or ErrProof what is wrong.
func CheckInclusion(leaf string, i, n int, root string, proof []string) error {
	if i < 0 || i >= n || n > api.MaxNumber {
		return api.ErrIndex
	}
	want, isHash := hash.Read(root)
	if !isHash {
		return api.ErrProof
	}
	got, fits := climb(leaf, i, n, proof)
	if !fits || got != want {
		return api.ErrProof
	}
	return nil
}

// climb is the root to which the proof leads from the leaf, and tells if the proof has the hashes that it needs, and no others.
func climb(leaf string, i, n int, proof []string) (hash.Hash, bool) {
	if n == 1 {
		return rootOfOne(leaf), len(proof) == 0
	}
	rest, beside, ok := cutLast(proof)
	if !ok {
		return hash.Hash{}, false
	}
	k := split(n)
	if i < k {
		left, fits := climb(leaf, i, k, rest)
		return join(left, beside), fits
	}
	right, fits := climb(leaf, i-k, n-k, rest)
	return join(beside, right), fits
}

// CheckConsistency tells by nil that the proof leads to both roots, first over m leaves and second over n; else by ErrIndex or ErrProof what is wrong.
func CheckConsistency(m, n int, first, second string, proof []string) error {
	if m < 0 || m > n || n > api.MaxNumber {
		return api.ErrIndex
	}
	if m == 0 {
		return checkFromNothing(n, first, second, proof)
	}
	wantOld, isHash := hash.Read(first)
	if !isHash {
		return api.ErrProof
	}
	wantNow, isHash := hash.Read(second)
	if !isHash {
		return api.ErrProof
	}
	old, now, fits := regrow(m, n, wantOld, true, proof)
	if !fits || old != wantOld || now != wantNow {
		return api.ErrProof
	}
	return nil
}

// checkFromNothing takes any second root over some leaves, for there is nothing of which it must be the growth.
func checkFromNothing(n int, first, second string, proof []string) error {
	old, isHash := hash.Read(first)
	if !isHash || old != Root(nil) || len(proof) > 0 {
		return api.ErrProof
	}
	if n == 0 && second != first {
		return api.ErrProof
	}
	return nil
}

// regrow gives the roots over the first m leaves and over all n to which the proof leads, and tells if it has the hashes that it needs, and no others. If whole, the proof leaves out the root over the first m leaves of this tree, for it is the one that is known already.
func regrow(m, n int, known hash.Hash, whole bool, proof []string) (old, now hash.Hash, fits bool) {
	if m == n && whole {
		return known, known, len(proof) == 0
	}
	rest, beside, ok := cutLast(proof)
	if !ok {
		return hash.Hash{}, hash.Hash{}, false
	}
	if m == n {
		return beside, beside, len(rest) == 0
	}
	k := split(n)
	if m <= k {
		old, now, fits = regrow(m, k, known, whole, rest)
		return old, join(now, beside), fits
	}
	old, now, fits = regrow(m-k, n-k, known, false, rest)
	return join(beside, old), join(beside, now), fits
}

// cutLast takes the last hash from a proof, and tells if there is one.
func cutLast(proof []string) ([]string, hash.Hash, bool) {
	if len(proof) == 0 {
		return nil, hash.Hash{}, false
	}
	last := len(proof) - 1
	h, isHash := hash.Read(proof[last])
	return proof[:last], h, isHash
}
