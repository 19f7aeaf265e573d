package auditbook_test

import (
	"encoding/hex"
	"errors"
	"math"
	"slices"
	"strings"
	"sync"
	"testing"

	"auditbook/api"
	"auditbook/auditbook"
)

// sizes are all numbers of leaves up to some, and those around powers of 2 beyond.
func sizes() []int {
	var all []int
	for n := range 36 {
		all = append(all, n)
	}
	return append(all, 63, 64, 65, 100, 127, 128, 129)
}

func mustInclude(t *testing.T, leaves []string, i int) []string {
	t.Helper()
	proof, err := auditbook.Inclusion(leaves, i)
	if err != nil {
		t.Fatalf("P6: Inclusion of %d leaves at %d: %v", len(leaves), i, err)
	}
	return proof
}

func mustGrow(t *testing.T, leaves []string, m int) []string {
	t.Helper()
	proof, err := auditbook.Consistency(leaves, m)
	if err != nil {
		t.Fatalf("P6: Consistency of %d leaves with %d: %v", len(leaves), m, err)
	}
	return proof
}

func wantErr(t *testing.T, what string, err, want error) {
	t.Helper()
	if !errors.Is(err, want) {
		t.Errorf("%s: %v, want %v", what, err, want)
	}
}

func wantNil(t *testing.T, what string, err error) {
	t.Helper()
	if err != nil {
		t.Errorf("%s: %v, want nil", what, err)
	}
}

func TestRootOfKnownLeaves(t *testing.T) {
	leaves := []string{"", "\x00", "\x10", "\x20\x21", "\x30\x31", "\x40\x41\x42\x43", "\x50\x51\x52\x53\x54\x55\x56\x57", "\x60\x61\x62\x63\x64\x65\x66\x67\x68\x69\x6a\x6b\x6c\x6d\x6e\x6f"}
	for n, want := range []string{
		"e3b0c44298fc1c149afbf4c8996fb92427ae41e4649b934ca495991b7852b855",
		"6e340b9cffb37a989ca544e6bb780a2c78901d3fb33738768511a30617afa01d",
		"fac54203e7cc696cf0dfcb42c92a1d9dbaf70ad9e621f4bd8d98662f00e3c125",
		"aeb6bcfe274b70a14fb067a5e5578264db0fa9b51af5e0ba159158f329e06e77",
		"d37ee418976dd95753c1c73862b9398fa2a2cf9b4ff0fdfe8b30cd95209614b7",
		"4e3bbb1f7b478dcfe71fb631631519a3bca12c9aefca1612bfce4c13a86264d4",
		"76e67dadbcdf1e10e1b74ddc608abd2f98dfb16fbce75277b5232a127f2087ef",
		"ddb89be403809e325750d3d263cd78929c2942b7942a34b77e122c9594a74c8c",
		"5dc9da79a70659a9ad559cb701ded9a2ab9d823aad2f4960cfe370eff4604328",
	} {
		if got := hex.EncodeToString([]byte(auditbook.Root(leaves[:n]))); got != want {
			t.Errorf("P5: Root of %d leaves: %s, want %s", n, got, want)
		}
	}
	if auditbook.Root(nil) != refSum() || auditbook.Root([]string{}) != refSum() {
		t.Error("P5: Root of no leaf is not Sum of nothing")
	}
}

func TestRootOfEverySize(t *testing.T) {
	for _, n := range append(sizes(), 255, 256, 257, 1000, 1<<14-1, 1<<14, 1<<14+1) {
		leaves := manyLeaves(n)
		if got, want := auditbook.Root(leaves), refRoot(leaves); got != want {
			t.Errorf("P5: Root of %d leaves: %x, want %x", n, got, want)
		}
	}
}

// What a hash is made of says if it is a leaf: so no leaf reads as two trees.
func TestLeafIsNoTree(t *testing.T) {
	a, b := refLeaf("a"), refLeaf("b")
	root := auditbook.Root([]string{"a", "b"})
	for _, leaf := range []string{a + b, "\x00" + a + b, "\x01" + a + b, "ab", ""} {
		if auditbook.Root([]string{leaf}) == root {
			t.Errorf("P5: the leaf %x has the root of a and b", leaf)
		}
		wantErr(t, "P7: a leaf that reads as two", auditbook.CheckInclusion(leaf, 0, 1, root, nil), api.ErrProof)
	}
}

func TestExampleOfThreeLeaves(t *testing.T) {
	leaves := []string{"a", "b", "c"}
	a, b, c := refLeaf("a"), refLeaf("b"), refLeaf("c")
	if auditbook.Root(leaves) != refJoin(refJoin(a, b), c) {
		t.Error("P5: Root of a, b, c is another")
	}
	if got := mustInclude(t, leaves, 2); !slices.Equal(got, []string{refJoin(a, b)}) {
		t.Errorf("P6: Inclusion at 2: %x", got)
	}
	for m, want := range [][]string{nil, {b, c}, {c}, nil} {
		if got := mustGrow(t, leaves, m); !slices.Equal(got, want) {
			t.Errorf("P6: Consistency with %d: %x, want %x", m, got, want)
		}
	}
}

func TestInclusionAtEveryPlace(t *testing.T) {
	for _, n := range sizes() {
		leaves := manyLeaves(n)
		root := refRoot(leaves)
		for i := range n {
			proof := mustInclude(t, leaves, i)
			if want := refInclusion(leaves, i); !slices.Equal(proof, want) {
				t.Fatalf("P6: Inclusion of %d leaves at %d: %x, want %x", n, i, proof, want)
			}
			wantNil(t, "P7: CheckInclusion of its proof", auditbook.CheckInclusion(leaves[i], i, n, root, proof))
		}
	}
}

func TestInclusionAtNoPlace(t *testing.T) {
	for _, n := range sizes() {
		leaves := manyLeaves(n)
		for _, i := range []int{-1, -2, -n - 1, n, n + 1, 2*n + 1, 1 << 32, math.MinInt, math.MaxInt} {
			proof, err := auditbook.Inclusion(leaves, i)
			wantErr(t, "P6: Inclusion at no place", err, api.ErrIndex)
			if len(proof) > 0 {
				t.Errorf("P1: Inclusion of %d leaves at %d: %x with an error", n, i, proof)
			}
		}
	}
	_, err := auditbook.Inclusion(nil, 0)
	wantErr(t, "P6: Inclusion of no list", err, api.ErrIndex)
}

func TestConsistencyWithEveryNumber(t *testing.T) {
	for _, n := range sizes() {
		leaves := manyLeaves(n)
		root := refRoot(leaves)
		for m := range n + 1 {
			proof := mustGrow(t, leaves, m)
			if want := refConsistency(leaves, m, true); !slices.Equal(proof, want) {
				t.Fatalf("P6: Consistency of %d leaves with %d: %x, want %x", n, m, proof, want)
			}
			wantNil(t, "P7: CheckConsistency of its proof", auditbook.CheckConsistency(m, n, refRoot(leaves[:m]), root, proof))
		}
	}
}

func TestConsistencyWithNoNumber(t *testing.T) {
	for _, n := range sizes() {
		leaves := manyLeaves(n)
		for _, m := range []int{-1, -2, -n - 1, n + 1, n + 2, 2*n + 1, 1 << 32, math.MinInt, math.MaxInt} {
			proof, err := auditbook.Consistency(leaves, m)
			wantErr(t, "P6: Consistency with no number", err, api.ErrIndex)
			if len(proof) > 0 {
				t.Errorf("P1: Consistency of %d leaves with %d: %x with an error", n, m, proof)
			}
		}
	}
	proof, err := auditbook.Consistency(nil, 0)
	if err != nil || len(proof) > 0 {
		t.Errorf("P6: Consistency of no list with 0: %x, %v", proof, err)
	}
}

// wrongTexts are a proof's neighbours that are none of the same tree: a hash less, one more, another one, the same ones elsewhere, or a text that is no hash.
func wrongTexts(proof []string) [][]string {
	other := refSum("other")
	wrong := [][]string{append(slices.Clone(proof), other), append(slices.Clone(proof), ""), append([]string{""}, proof...)}
	for k, h := range proof {
		turned := []byte(h)
		turned[k%32] ^= 1 << (k % 8)
		for _, text := range []string{other, string(turned), "", h[:31], h + "\x00", h + h, h[1:] + "x", noughts} {
			list := slices.Clone(proof)
			list[k] = text
			wrong = append(wrong, list)
		}
		wrong = append(wrong, slices.Delete(slices.Clone(proof), k, k+1), proof[:k], slices.Insert(slices.Clone(proof), k, other), slices.Insert(slices.Clone(proof), k, h))
		if k > 0 && proof[k-1] != h {
			list := slices.Clone(proof)
			list[k-1], list[k] = h, proof[k-1]
			wrong = append(wrong, list)
		}
	}
	return wrong
}

// wrongRoots are texts that are not this root.
func wrongRoots(root string) []string {
	wrong := []string{"", root[:31], root[1:], root + "\x00", "\x00" + root, root + root, refSum("other"), refSum(), noughts}
	for at := range 32 {
		turned := []byte(root)
		turned[at] ^= 1 << (at % 8)
		wrong = append(wrong, string(turned))
	}
	return wrong
}

func TestInclusionRefused(t *testing.T) {
	for n := 1; n <= 20; n++ {
		leaves := ownLeaves(n)
		root := refRoot(leaves)
		for i := range n {
			proof := mustInclude(t, leaves, i)
			for _, wrong := range wrongTexts(proof) {
				wantErr(t, "P7: CheckInclusion of another proof", auditbook.CheckInclusion(leaves[i], i, n, root, wrong), api.ErrProof)
			}
			for _, wrong := range wrongRoots(root) {
				wantErr(t, "P7: CheckInclusion of another root", auditbook.CheckInclusion(leaves[i], i, n, wrong, proof), api.ErrProof)
			}
			for _, leaf := range []string{"", "x", leaves[i] + "\x00", leaves[i][1:], refLeaf(leaves[i]), "\x00" + leaves[i]} {
				wantErr(t, "P7: CheckInclusion of another leaf", auditbook.CheckInclusion(leaf, i, n, root, proof), api.ErrProof)
			}
			for j := range n {
				if j != i {
					wantErr(t, "P7: CheckInclusion at another place", auditbook.CheckInclusion(leaves[i], j, n, root, proof), api.ErrProof)
				}
			}
		}
	}
}

func TestConsistencyRefused(t *testing.T) {
	for n := 2; n <= 20; n++ {
		leaves := ownLeaves(n)
		root := refRoot(leaves)
		for m := 1; m < n; m++ {
			first := refRoot(leaves[:m])
			proof := mustGrow(t, leaves, m)
			for _, wrong := range wrongTexts(proof) {
				wantErr(t, "P7: CheckConsistency of another proof", auditbook.CheckConsistency(m, n, first, root, wrong), api.ErrProof)
			}
			for _, wrong := range append(wrongRoots(first), root) {
				wantErr(t, "P7: CheckConsistency of another first root", auditbook.CheckConsistency(m, n, wrong, root, proof), api.ErrProof)
			}
			for _, wrong := range append(wrongRoots(root), first) {
				wantErr(t, "P7: CheckConsistency of another second root", auditbook.CheckConsistency(m, n, first, wrong, proof), api.ErrProof)
			}
			wantErr(t, "P7: CheckConsistency of roots the wrong way round", auditbook.CheckConsistency(m, n, root, first, proof), api.ErrProof)
		}
	}
}

// A book that is not the growth of another has no proof, whichever of the two the hashes are of.
func TestConsistencyOfTwoBooksRefused(t *testing.T) {
	for n := 2; n <= 20; n++ {
		leaves := ownLeaves(n)
		for changed := range n {
			others := slices.Clone(leaves)
			others[changed] = "changed"
			for m := changed + 1; m < n; m++ {
				first, second := refRoot(leaves[:m]), refRoot(others)
				wantErr(t, "P7: CheckConsistency of two books", auditbook.CheckConsistency(m, n, first, second, mustGrow(t, others, m)), api.ErrProof)
				wantErr(t, "P7: CheckConsistency of two books", auditbook.CheckConsistency(m, n, first, second, mustGrow(t, leaves, m)), api.ErrProof)
			}
		}
	}
}

func TestConsistencyFromNothing(t *testing.T) {
	empty := refSum()
	some := refRoot([]string{"a"})
	for _, n := range []int{1, 2, 3, 64, api.MaxNumber} {
		for _, second := range []string{"", "x", empty, some, strings.Repeat("y", 33)} {
			wantNil(t, "P7: from nothing to anything", auditbook.CheckConsistency(0, n, empty, second, nil))
			wantNil(t, "P7: from nothing to anything", auditbook.CheckConsistency(0, n, empty, second, []string{}))
			wantErr(t, "P7: from nothing, with a hash", auditbook.CheckConsistency(0, n, empty, second, []string{some}), api.ErrProof)
			wantErr(t, "P7: from nothing, with a text", auditbook.CheckConsistency(0, n, empty, second, []string{""}), api.ErrProof)
			for _, first := range append(wrongRoots(empty)[:7], some, second+"z") {
				wantErr(t, "P7: from another root than that of nothing", auditbook.CheckConsistency(0, n, first, second, nil), api.ErrProof)
			}
		}
	}
	wantNil(t, "P7: from nothing to nothing", auditbook.CheckConsistency(0, 0, empty, empty, nil))
	for _, other := range []string{"", "x", some, empty[:31], empty + "\x00"} {
		wantErr(t, "P7: from nothing to nothing, another second root", auditbook.CheckConsistency(0, 0, empty, other, nil), api.ErrProof)
		wantErr(t, "P7: from nothing to nothing, another first root", auditbook.CheckConsistency(0, 0, other, empty, nil), api.ErrProof)
		wantErr(t, "P7: from nothing to nothing, other roots", auditbook.CheckConsistency(0, 0, other, other, nil), api.ErrProof)
		wantErr(t, "P7: from nothing to nothing, with a text", auditbook.CheckConsistency(0, 0, empty, empty, []string{other}), api.ErrProof)
	}
}

// noughts are a hash, too: nothing else may be read as these.
var noughts = strings.Repeat("\x00", 32)

func TestConsistencyOfTheSameSize(t *testing.T) {
	wantNil(t, "P7: the same noughts", auditbook.CheckConsistency(5, 5, noughts, noughts, nil))
	for _, n := range []int{1, 2, 3, 4, 7, 1 << 20, api.MaxNumber} {
		root, other := refSum("root"), refSum("other")
		wantNil(t, "P7: the same root", auditbook.CheckConsistency(n, n, root, root, nil))
		wantNil(t, "P7: the same root, any hash", auditbook.CheckConsistency(n, n, refSum(), refSum(), []string{}))
		wantErr(t, "P7: two roots", auditbook.CheckConsistency(n, n, root, other, nil), api.ErrProof)
		wantErr(t, "P7: the same root, with a hash", auditbook.CheckConsistency(n, n, root, root, []string{root}), api.ErrProof)
		wantErr(t, "P7: the same root, with a text", auditbook.CheckConsistency(n, n, root, root, []string{""}), api.ErrProof)
		for _, text := range []string{"", "x", root[:31], root + "x", root + root} {
			wantErr(t, "P7: the same text, which is no hash", auditbook.CheckConsistency(n, n, text, text, nil), api.ErrProof)
			wantErr(t, "P7: a hash and a text", auditbook.CheckConsistency(n, n, root, text, nil), api.ErrProof)
			wantErr(t, "P7: a text and a hash", auditbook.CheckConsistency(n, n, text, root, nil), api.ErrProof)
			wantErr(t, "P7: noughts and a text", auditbook.CheckConsistency(n, n, noughts, text, nil), api.ErrProof)
			wantErr(t, "P7: a text and noughts", auditbook.CheckConsistency(n, n, text, noughts, nil), api.ErrProof)
			wantErr(t, "P7: two texts", auditbook.CheckConsistency(n, n, text, text+"y", nil), api.ErrProof)
		}
	}
}

// Texts that are no hashes are refused where they would lead to the root, too.
func TestTextsThatLeadToTheRootRefused(t *testing.T) {
	leaf := refLeaf("a")
	for _, text := range []string{"", "x", strings.Repeat("x", 31), strings.Repeat("x", 33), strings.Repeat("x", 64)} {
		wantErr(t, "P7: a text on the right", auditbook.CheckInclusion("a", 0, 2, refJoin(leaf, text), []string{text}), api.ErrProof)
		wantErr(t, "P7: a text on the left", auditbook.CheckInclusion("a", 1, 2, refJoin(text, leaf), []string{text}), api.ErrProof)
		wantErr(t, "P7: a text as a first root", auditbook.CheckConsistency(1, 2, text, refJoin(text, leaf), []string{leaf}), api.ErrProof)
		wantErr(t, "P7: a text as a first root, for noughts", auditbook.CheckConsistency(1, 2, text, refJoin(noughts, leaf), []string{leaf}), api.ErrProof)
		wantErr(t, "P7: a text on the right, for noughts", auditbook.CheckInclusion("a", 0, 2, refJoin(leaf, noughts), []string{text}), api.ErrProof)
		wantErr(t, "P7: a text behind the first root", auditbook.CheckConsistency(1, 2, leaf, refJoin(leaf, text), []string{text}), api.ErrProof)
		wantErr(t, "P7: a text at the edge", auditbook.CheckConsistency(3, 4, refJoin(leaf, text), refJoin(leaf, refJoin(text, leaf)), []string{text, leaf, leaf}), api.ErrProof)
	}
}

func TestIndexAheadOfProof(t *testing.T) {
	a := refLeaf("a")
	for _, c := range []struct{ i, n int }{
		{-1, 1}, {1, 1}, {2, 1}, {0, 0}, {0, -1}, {-1, -1}, {-2, -1}, {-1, 0}, {1, 0},
		{0, api.MaxNumber + 1}, {api.MaxNumber, api.MaxNumber}, {api.MaxNumber, api.MaxNumber + 1}, {-1, api.MaxNumber},
		{0, math.MinInt}, {math.MinInt, math.MinInt}, {math.MinInt, 1}, {0, math.MaxInt}, {math.MaxInt, math.MaxInt}, {math.MinInt, math.MaxInt}, {math.MaxInt, 1}, {0, 1<<32 + 1}, {0, 1 << 32},
	} {
		for _, proof := range [][]string{nil, {a}, {"x"}} {
			wantErr(t, "P7: CheckInclusion at no place", auditbook.CheckInclusion("a", c.i, c.n, a, proof), api.ErrIndex)
			wantErr(t, "P7: CheckInclusion at no place, of no root", auditbook.CheckInclusion("a", c.i, c.n, "x", proof), api.ErrIndex)
		}
	}
	for _, c := range []struct{ m, n int }{
		{-1, 0}, {-1, 1}, {1, 0}, {2, 1}, {0, -1}, {-1, -1}, {-2, -1},
		{0, api.MaxNumber + 1}, {1, api.MaxNumber + 1}, {api.MaxNumber + 1, api.MaxNumber + 1}, {api.MaxNumber + 1, api.MaxNumber},
		{0, math.MinInt}, {math.MinInt, math.MinInt}, {math.MinInt, 1}, {0, math.MaxInt}, {math.MaxInt, math.MaxInt}, {math.MinInt, math.MaxInt}, {math.MaxInt, 1}, {1, 1 << 32}, {0, 1 << 32},
	} {
		for _, first := range []string{a, refSum(), "x"} {
			wantErr(t, "P7: CheckConsistency with no number", auditbook.CheckConsistency(c.m, c.n, first, first, nil), api.ErrIndex)
			wantErr(t, "P7: CheckConsistency with no number", auditbook.CheckConsistency(c.m, c.n, first, a, []string{"x"}), api.ErrIndex)
		}
	}
}

// greatSizes are numbers of leaves that no list here could have.
func greatSizes() []int {
	return []int{1 << 20, 1<<20 + 1, 1<<30 - 1, 1 << 30, 1<<30 + 1, 3 << 29, 0x55555555, 0x2aaaaaab, api.MaxNumber - 1, api.MaxNumber}
}

// places are some of 0 to n: both ends, and around the powers of 2 from both sides.
func places(n int) []int {
	all := []int{0, n}
	for k := 1; k < n; k *= 2 {
		all = append(all, k-1, k, k+1, n-k, n-k+1)
	}
	return all
}

func TestInclusionInGreatTrees(t *testing.T) {
	same := sameLeaves{"leaf", map[int]string{}}
	for _, n := range greatSizes() {
		for _, i := range places(n) {
			proof := same.inclusion(min(i, n-1), n)
			if i == n {
				wantErr(t, "P7: behind the last leaf", auditbook.CheckInclusion("leaf", i, n, same.root(n), proof), api.ErrIndex)
				continue
			}
			wantNil(t, "P7: a great tree", auditbook.CheckInclusion("leaf", i, n, same.root(n), proof))
			wantErr(t, "P7: a great tree, a hash less", auditbook.CheckInclusion("leaf", i, n, same.root(n), proof[1:]), api.ErrProof)
			wantErr(t, "P7: a great tree, a hash more", auditbook.CheckInclusion("leaf", i, n, same.root(n), append(proof, refSum())), api.ErrProof)
			wantErr(t, "P7: a great tree, another leaf", auditbook.CheckInclusion("other", i, n, same.root(n), proof), api.ErrProof)
		}
	}
}

func TestConsistencyOfGreatTrees(t *testing.T) {
	same := sameLeaves{"leaf", map[int]string{}}
	for _, n := range greatSizes() {
		for _, m := range places(n)[1:] {
			if m == 0 {
				continue
			}
			proof := same.consistency(m, n, true)
			wantNil(t, "P7: great trees", auditbook.CheckConsistency(m, n, same.root(m), same.root(n), proof))
			wantErr(t, "P7: great trees, a hash more", auditbook.CheckConsistency(m, n, same.root(m), same.root(n), append(proof, refSum())), api.ErrProof)
			wantErr(t, "P7: great trees, another second root", auditbook.CheckConsistency(m, n, same.root(m), refSum(), proof), api.ErrProof)
			wantErr(t, "P7: great trees, another first root", auditbook.CheckConsistency(m, n, refSum(), same.root(n), proof), api.ErrProof)
			if m < n {
				wantErr(t, "P7: great trees, a hash less", auditbook.CheckConsistency(m, n, same.root(m), same.root(n), proof[1:]), api.ErrProof)
			}
		}
	}
}

func TestVeryLongProofsRefused(t *testing.T) {
	root := refSum("root")
	long := slices.Repeat([]string{root}, 1<<18)
	for _, n := range []int{1, 2, 3, 1 << 20, api.MaxNumber} {
		wantErr(t, "P7: a very long proof", auditbook.CheckInclusion("a", 0, n, root, long), api.ErrProof)
		wantErr(t, "P7: a very long proof", auditbook.CheckInclusion("a", n-1, n, root, long), api.ErrProof)
		for _, m := range []int{0, 1, n / 2, n} {
			first := root
			if m == 0 {
				first = refSum()
			}
			wantErr(t, "P7: a very long proof", auditbook.CheckConsistency(m, n, first, root, long), api.ErrProof)
		}
	}
}

// What a check answers must be what RFC 9162's way of checking answers: at every place and size, for proofs of other places and sizes, too.
func TestInclusionAgainstTheBits(t *testing.T) {
	leaves := ownLeaves(12)
	for n := 1; n <= len(leaves); n++ {
		root := refRoot(leaves[:n])
		for i := range n {
			proof := mustInclude(t, leaves[:n], i)
			for size := 1; size <= 17; size++ {
				for at := range size {
					took := auditbook.CheckInclusion(leaves[i], at, size, root, proof) == nil
					if want := refInclusionHolds(leaves[i], at, size, root, proof); took != want {
						t.Errorf("P7: leaf %d of %d, checked as %d of %d: taken is %v, want %v", i, n, at, size, took, want)
					}
				}
			}
		}
	}
}

func TestConsistencyAgainstTheBits(t *testing.T) {
	leaves := ownLeaves(12)
	for n := 2; n <= len(leaves); n++ {
		second := refRoot(leaves[:n])
		for m := 1; m < n; m++ {
			first, proof := refRoot(leaves[:m]), mustGrow(t, leaves[:n], m)
			for size := 2; size <= 17; size++ {
				for part := 1; part < size; part++ {
					took := auditbook.CheckConsistency(part, size, first, second, proof) == nil
					if want := refConsistencyHolds(part, size, first, second, proof); took != want {
						t.Errorf("P7: %d within %d, checked as %d within %d: taken is %v, want %v", m, n, part, size, took, want)
					}
				}
			}
		}
	}
}

// Lists are handed in with room behind them, in which nothing may be written either.
func TestListsAreNotWrittenInto(t *testing.T) {
	for n := 1; n <= 17; n++ {
		leaves := append(ownLeaves(n), "behind", "them")
		kept := slices.Clone(leaves)
		root := auditbook.Root(leaves[:n])
		for k := range n + 1 {
			grown := append(mustGrow(t, leaves[:n], k), "behind", "it")
			keptGrown := slices.Clone(grown)
			wantNil(t, "P7: CheckConsistency", auditbook.CheckConsistency(k, n, refRoot(leaves[:k]), root, grown[:len(grown)-2]))
			wantErr(t, "P7: CheckConsistency", auditbook.CheckConsistency(k, n, refRoot(leaves[:k]), root, grown), api.ErrProof)
			if !slices.Equal(grown, keptGrown) {
				t.Errorf("P2: the proof of %d in %d is now %q", k, n, grown)
			}
			if k == n {
				continue
			}
			proof := append(mustInclude(t, leaves[:n], k), "behind", "it")
			keptProof := slices.Clone(proof)
			wantNil(t, "P7: CheckInclusion", auditbook.CheckInclusion(leaves[k], k, n, root, proof[:len(proof)-2]))
			wantErr(t, "P7: CheckInclusion", auditbook.CheckInclusion(leaves[k], k, n, root, proof), api.ErrProof)
			if !slices.Equal(proof, keptProof) {
				t.Errorf("P2: the proof of %d of %d is now %q", k, n, proof)
			}
		}
		if !slices.Equal(leaves, kept) {
			t.Errorf("P2: the leaves are now %q", leaves)
		}
	}
}

// scribble writes over a list, as far as its memory goes.
func scribble(list []string) {
	whole := list[:cap(list)]
	for i := range whole {
		whole[i] = "scribbled"
	}
}

func TestProofsAreFreshMemory(t *testing.T) {
	leaves := ownLeaves(13)
	var lists, kept [][]string
	for range 2 {
		for k := range leaves {
			included, grown := mustInclude(t, leaves, k), mustGrow(t, leaves, k)
			lists = append(lists, included, grown)
			kept = append(kept, slices.Clone(included), slices.Clone(grown))
		}
	}
	for i := range lists {
		scribble(lists[i])
		for j := i + 1; j < len(lists); j++ {
			if !slices.Equal(lists[j], kept[j]) {
				t.Fatalf("P2: lists %d and %d share memory", i, j)
			}
		}
	}
	for k := range leaves {
		if !slices.Equal(mustInclude(t, leaves, k), kept[2*k]) || !slices.Equal(mustGrow(t, leaves, k), kept[2*k+1]) {
			t.Errorf("P2: what came out for %d was kept", k)
		}
	}
}

func TestListsAreNotKept(t *testing.T) {
	leaves := ownLeaves(11)
	root, included, grown := auditbook.Root(leaves), mustInclude(t, leaves, 6), mustGrow(t, leaves, 6)
	scribble(leaves)
	again := ownLeaves(11)
	if auditbook.Root(again) != root || refRoot(again) != root {
		t.Error("P2: Root hangs on a list that was handed in ahead of it")
	}
	if !slices.Equal(included, refInclusion(again, 6)) || !slices.Equal(grown, refConsistency(again, 6, true)) {
		t.Error("P2: a proof hangs on the list of leaves still")
	}
	if auditbook.Root(leaves) != refRoot(leaves) {
		t.Error("P2: Root answers for a list as it was")
	}
}

func TestTreesAtTheSameTime(t *testing.T) {
	leaves := ownLeaves(21)
	root := refRoot(leaves)
	var all sync.WaitGroup
	for n := range 8 {
		all.Go(func() {
			for i := range leaves {
				included, err := auditbook.Inclusion(leaves, i)
				wantNil(t, "P6: Inclusion", err)
				wantNil(t, "P7: CheckInclusion", auditbook.CheckInclusion(leaves[i], i, len(leaves), root, included))
				grown, err := auditbook.Consistency(leaves, n+i/2)
				wantNil(t, "P6: Consistency", err)
				wantNil(t, "P7: CheckConsistency", auditbook.CheckConsistency(n+i/2, len(leaves), refRoot(leaves[:n+i/2]), root, grown))
			}
		})
	}
	all.Wait()
}

// cut cuts a text into texts of 32 bytes, and what is left.
func cut(text string) []string {
	var texts []string
	for len(text) > 0 {
		n := min(32, len(text))
		texts, text = append(texts, text[:n]), text[n:]
	}
	return texts
}

// FuzzCheckInclusion: whatever is handed in, what RFC 9162's way takes is taken, and nothing else.
func FuzzCheckInclusion(f *testing.F) {
	leaves := ownLeaves(5)
	f.Add("leaf 3", 3, 5, refRoot(leaves), strings.Join(refInclusion(leaves, 3), ""))
	f.Add("", 0, 1, refLeaf(""), "")
	f.Add("x", -1, 0, "", "x")
	f.Add("x", 0, 1<<31, "", "x")
	f.Fuzz(func(t *testing.T, leaf string, i, n int, root, hashes string) {
		err := auditbook.CheckInclusion(leaf, i, n, root, cut(hashes))
		switch {
		case i < 0 || i >= n || n > 1<<31-1:
			wantErr(t, "P7: CheckInclusion", err, api.ErrIndex)
		case refInclusionHolds(leaf, i, n, root, cut(hashes)):
			wantNil(t, "P7: CheckInclusion", err)
		default:
			wantErr(t, "P7: CheckInclusion", err, api.ErrProof)
		}
	})
}

// FuzzCheckConsistency: likewise.
func FuzzCheckConsistency(f *testing.F) {
	leaves := ownLeaves(7)
	for m := 1; m < 7; m++ {
		f.Add(m, 7, refRoot(leaves[:m]), refRoot(leaves), strings.Join(refConsistency(leaves, m, true), ""))
	}
	f.Add(0, 0, refSum(), refSum(), "")
	f.Add(0, 9, refSum(), "x", "")
	f.Add(4, 4, refSum(), refSum(), "")
	f.Add(5, 4, "", "", "x")
	f.Fuzz(func(t *testing.T, m, n int, first, second, hashes string) {
		err := auditbook.CheckConsistency(m, n, first, second, cut(hashes))
		if m < 0 || m > n || n > 1<<31-1 {
			wantErr(t, "P7: CheckConsistency", err, api.ErrIndex)
			return
		}
		if refGrew(m, n, first, second, cut(hashes)) {
			wantNil(t, "P7: CheckConsistency", err)
		} else {
			wantErr(t, "P7: CheckConsistency", err, api.ErrProof)
		}
	})
}
