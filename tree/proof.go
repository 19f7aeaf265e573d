package tree

import "auditbook/api"

// Inclusion gives the hashes that lead from leaf i up to the root, or ErrIndex if there is no such leaf.
func Inclusion(leaves []string, i int) ([]string, error) {
	if i < 0 || i >= len(leaves) {
		return nil, api.ErrIndex
	}
	return path(leaves, i), nil
}

func path(leaves []string, i int) []string {
	if len(leaves) == 1 {
		return nil
	}
	k := split(len(leaves))
	if i < k {
		return append(path(leaves[:k], i), Root(leaves[k:]).Text())
	}
	return append(path(leaves[k:], i-k), Root(leaves[:k]).Text())
}

// Consistency gives the hashes that lead to the root over the first m leaves and to that over all, or ErrIndex if there are no m leaves.
func Consistency(leaves []string, m int) ([]string, error) {
	if m < 0 || m > len(leaves) {
		return nil, api.ErrIndex
	}
	// Every tree has grown from the empty one: that needs no proof.
	if m == 0 {
		return nil, nil
	}
	return grown(leaves, m, true), nil
}

// grown goes down to the edge of the first m leaves; whole tells if nothing was left aside on the left, so that their root is the one that is known already.
func grown(leaves []string, m int, whole bool) []string {
	if m == len(leaves) {
		if whole {
			return nil
		}
		return []string{Root(leaves).Text()}
	}
	k := split(len(leaves))
	if m <= k {
		return append(grown(leaves[:k], m, whole), Root(leaves[k:]).Text())
	}
	return append(grown(leaves[k:], m-k, false), Root(leaves[:k]).Text())
}
