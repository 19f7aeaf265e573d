package auditbook_test

import (
	"crypto/sha256"
	"math/bits"
	"strconv"
	"strings"
)

// The trees here are made and checked in other ways than the program's: level by level, and by the bits of the numbers, with the library's SHA-256.

func refSum(texts ...string) string {
	h := sha256.Sum256([]byte(strings.Join(texts, "")))
	return string(h[:])
}

func refLeaf(leaf string) string        { return refSum("\x00", leaf) }
func refJoin(left, right string) string { return refSum("\x01", left, right) }

// refLevels are the hashes over the leaves, from those of the leaves up to the root; what has no neighbour goes up as it is.
func refLevels(leaves []string) [][]string {
	level := make([]string, len(leaves))
	for i, leaf := range leaves {
		level[i] = refLeaf(leaf)
	}
	levels := [][]string{level}
	for len(level) > 1 {
		var above []string
		for i := 0; i+1 < len(level); i += 2 {
			above = append(above, refJoin(level[i], level[i+1]))
		}
		if len(level)%2 == 1 {
			above = append(above, level[len(level)-1])
		}
		levels, level = append(levels, above), above
	}
	return levels
}

func refRoot(leaves []string) string {
	if len(leaves) == 0 {
		return refSum()
	}
	levels := refLevels(leaves)
	return levels[len(levels)-1][0]
}

func refInclusion(leaves []string, i int) []string {
	var proof []string
	for _, level := range refLevels(leaves) {
		if beside := i ^ 1; beside < len(level) {
			proof = append(proof, level[beside])
		}
		i /= 2
	}
	return proof
}

func refHalf(n int) int {
	k := 1
	for k+k < n {
		k += k
	}
	return k
}

func refConsistency(leaves []string, m int, whole bool) []string {
	n := len(leaves)
	switch k := refHalf(n); {
	case m == 0 || m == n && whole:
		return nil
	case m == n:
		return []string{refRoot(leaves)}
	case m <= k:
		return append(refConsistency(leaves[:k], m, whole), refRoot(leaves[k:]))
	default:
		return append(refConsistency(leaves[k:], m-k, false), refRoot(leaves[:k]))
	}
}

func allHashes(texts ...string) bool {
	for _, text := range texts {
		if len(text) != 32 {
			return false
		}
	}
	return true
}

// walk goes up a tree by the bits of a place and of the last place. At each hash it says on which side that stands; it tells if the hashes end at the root.
func walk(at, last uint64, hashes []string, leftOf, rightOf func(h string)) bool {
	for _, h := range hashes {
		if last == 0 {
			return false
		}
		if at&1 == 1 || at == last {
			leftOf(h)
			for at&1 == 0 && at != 0 {
				at, last = at>>1, last>>1
			}
		} else {
			rightOf(h)
		}
		at, last = at>>1, last>>1
	}
	return last == 0
}

// refInclusionHolds is how RFC 9162 checks a proof (2.1.3.2).
func refInclusionHolds(leaf string, i, n int, root string, proof []string) bool {
	r := refLeaf(leaf)
	top := walk(uint64(i), uint64(n-1), proof,
		func(h string) { r = refJoin(h, r) },
		func(h string) { r = refJoin(r, h) })
	return top && r == root && allHashes(root) && allHashes(proof...)
}

// refConsistencyHolds is how RFC 9162 checks a proof (2.1.4.2), for m above 0 and below n.
func refConsistencyHolds(m, n int, first, second string, proof []string) bool {
	if len(proof) == 0 || !allHashes(first, second) || !allHashes(proof...) {
		return false
	}
	if bits.OnesCount(uint(m)) == 1 {
		proof = append([]string{first}, proof...)
	}
	shift := bits.TrailingZeros(^uint(m - 1))
	old, now := proof[0], proof[0]
	top := walk(uint64(m-1)>>shift, uint64(n-1)>>shift, proof[1:],
		func(h string) { old, now = refJoin(h, old), refJoin(h, now) },
		func(h string) { now = refJoin(now, h) })
	return top && old == first && now == second
}

// refGrew tells if P7 takes a proof that a tree has grown from m leaves to n.
func refGrew(m, n int, first, second string, proof []string) bool {
	switch m {
	case 0:
		return first == refSum() && len(proof) == 0 && (n > 0 || second == first)
	case n:
		return first == second && len(first) == 32 && len(proof) == 0
	}
	return refConsistencyHolds(m, n, first, second, proof)
}

// sameLeaves are trees whose leaves are all the same: so a root hangs on how many there are alone, and trees of any size can be made.
type sameLeaves struct {
	leaf  string
	roots map[int]string
}

func (s sameLeaves) root(n int) string {
	if n == 1 {
		return refLeaf(s.leaf)
	}
	if s.roots[n] == "" {
		k := refHalf(n)
		s.roots[n] = refJoin(s.root(k), s.root(n-k))
	}
	return s.roots[n]
}

func (s sameLeaves) inclusion(i, n int) []string {
	if n == 1 {
		return nil
	}
	k := refHalf(n)
	if i < k {
		return append(s.inclusion(i, k), s.root(n-k))
	}
	return append(s.inclusion(i-k, n-k), s.root(k))
}

func (s sameLeaves) consistency(m, n int, whole bool) []string {
	if m == n {
		if whole {
			return nil
		}
		return []string{s.root(n)}
	}
	k := refHalf(n)
	if m <= k {
		return append(s.consistency(m, k, whole), s.root(n-k))
	}
	return append(s.consistency(m-k, n-k, false), s.root(k))
}

// manyLeaves are n leaves: empty ones, short ones, long ones, some of them twice.
func manyLeaves(n int) []string {
	leaves := make([]string, n)
	for i := range leaves {
		switch i % 7 {
		case 2:
			leaves[i] = ""
		case 4:
			leaves[i] = "the same"
		case 5:
			leaves[i] = pattern(i * 3)
		default:
			leaves[i] = strconv.Itoa(i)
		}
	}
	return leaves
}

// ownLeaves are n leaves, no two of them the same.
func ownLeaves(n int) []string {
	leaves := make([]string, n)
	for i := range leaves {
		leaves[i] = "leaf " + strconv.Itoa(i)
	}
	return leaves
}
