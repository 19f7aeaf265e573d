package tree

import (
	"math"
	"testing"

	"auditbook/api"
	"auditbook/hash"
)

func TestSplitIsTheGreatestPowerOf2Below(t *testing.T) {
	sizes := []int{math.MaxInt32 - 1, math.MaxInt32}
	for n := 2; n < 300; n++ {
		sizes = append(sizes, n)
	}
	for k := 4; k < 1<<30; k *= 2 {
		sizes = append(sizes, k-1, k, k+1)
	}
	for _, n := range sizes {
		k := split(n)
		if k&(k-1) != 0 || k >= n || n-k > k {
			t.Errorf("P5: of %d leaves %d are on the left", n, k)
		}
	}
}

func TestJoinKeepsSidesApart(t *testing.T) {
	a, b := rootOfOne("a"), rootOfOne("b")
	if join(a, b) == join(b, a) {
		t.Error("P5: the sides may change places")
	}
	if join(a, b) != hash.Of("\x01", a.Text()+b.Text()) {
		t.Error("P5: two trees side by side have another root")
	}
}

func TestCutLastTakesHashesAlone(t *testing.T) {
	want := hash.Of("x")
	if rest, h, ok := cutLast([]string{"first", want.Text()}); !ok || h != want || len(rest) != 1 || rest[0] != "first" {
		t.Errorf("the last of two: %q, %x, %v", rest, h, ok)
	}
	for _, proof := range [][]string{nil, {""}, {want.Text(), "x"}, {want.Text()[1:]}, {want.Text() + "x"}} {
		if _, _, ok := cutLast(proof); ok {
			t.Errorf("P7: %q ends with a hash", proof)
		}
	}
}

// The way up is as long as the tree is high, whatever the proof holds.
func TestProofOfAGreatTreeIsReadToItsEnd(t *testing.T) {
	proof := make([]string, 31)
	for i := range proof {
		proof[i] = hash.Of().Text()
	}
	if _, fits := climb("a", 0, api.MaxNumber, proof); !fits {
		t.Error("P7: 31 hashes do not fit at the first place")
	}
	if _, fits := climb("a", api.MaxNumber-1, api.MaxNumber, proof[1:]); !fits {
		t.Error("P7: 30 hashes do not fit at the last place")
	}
	if _, _, fits := regrow(1, api.MaxNumber, hash.Of(), true, proof); !fits {
		t.Error("P7: 31 hashes do not fit from 1 leaf on")
	}
}
