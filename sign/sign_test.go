package sign

import (
	"slices"
	"strings"
	"testing"

	"auditbook/api"
	"auditbook/hash"
)

// filled is a hash whose bytes are all the same.
func filled(b byte) hash.Hash {
	var h hash.Hash
	for i := range h {
		h[i] = b
	}
	return h
}

func TestDigitsAreHalfBytesTheHighOneFirst(t *testing.T) {
	var h hash.Hash
	for i := range h {
		h[i] = byte(i * 37)
	}
	got := digits(h)
	for i, b := range h {
		if got[2*i] != int(b)/16 || got[2*i+1] != int(b)%16 {
			t.Errorf("P8: byte %d is %02x, its digits are %d and %d", i, b, got[2*i], got[2*i+1])
		}
	}
}

func TestLastDigitsTellWhatTheOthersLack(t *testing.T) {
	for _, c := range []struct {
		fill byte
		want []int
	}{
		{0x00, []int{3, 12, 0}}, // 64 times 15
		{0xff, []int{0, 0, 0}},
		{0xf0, []int{1, 14, 0}},
		{0x0f, []int{1, 14, 0}},
		{0xfe, []int{0, 2, 0}},
		{0xbb, []int{1, 0, 0}},
		{0x77, []int{2, 0, 0}},
		{0x12, []int{3, 6, 0}},
	} {
		got := digits(filled(c.fill))
		if !slices.Equal(got[64:], c.want) {
			t.Errorf("P8: of %02x over and over the last digits are %v, want %v", c.fill, got[64:], c.want)
		}
	}
	for n := range 16 {
		h := filled(0xff)
		h[31] = 0xf0 | byte(n)
		if got := digits(h); !slices.Equal(got[64:], []int{0, 0, 15 - n}) {
			t.Errorf("P8: of one digit %d the last digits are %v", n, got[64:])
		}
	}
}

// No digits are at least as great as others everywhere: else a signature could be gone on to another's.
func TestNoDigitsReachBeyondOthers(t *testing.T) {
	texts := []hash.Hash{filled(0), filled(0xff), filled(0xf0), filled(0x0f), filled(0x88), hash.Of(), hash.Of("a"), hash.Of("b")}
	for i := range hash.Of() {
		h := filled(0x77)
		h[i] = 0x87
		texts = append(texts, h)
		h[i] = 0x78
		texts = append(texts, h)
	}
	for i, h := range texts {
		for j, other := range texts {
			if i != j && reaches(digits(h), digits(other)) {
				t.Errorf("P8: the digits of %x can be gone on to those of %x", h, other)
			}
		}
	}
}

func reaches(from, to [chainCount]int) bool {
	for chain := range from {
		if from[chain] > to[chain] {
			return false
		}
	}
	return true
}

func TestGoAlongTakesEachChainByItself(t *testing.T) {
	begin := func(chain int) hash.Hash { return filled(byte(chain)) }
	got := goAlong(begin, func(chain int) int { return chain % 3 })
	if len(got) != 67*32 {
		t.Fatalf("P8: %d bytes of values", len(got))
	}
	for chain := range 67 {
		want := filled(byte(chain))
		for range chain % 3 {
			want = hash.Of("\x02" + want.Text())
		}
		if got[chain*32:chain*32+32] != want.Text() {
			t.Errorf("P8: chain %d ends at another value behind %d steps", chain, chain%3)
		}
	}
}

func TestGoAlongStandsAtNoStep(t *testing.T) {
	got := goAlong(func(int) hash.Hash { return filled(9) }, func(int) int { return 0 })
	if got != strings.Repeat("\x09", 67*32) {
		t.Error("P8: behind no step there is another value")
	}
}

func TestChainsGoneOnMeetTheirEnd(t *testing.T) {
	seed := hash.Of("seed").Text()
	end := leaves(seed, 1)[1]
	for n := range topDigit + 1 {
		half := goAlong(beginnings(seed, 1), func(int) int { return n })
		begin := func(chain int) hash.Hash {
			h, _ := hash.Read(half[chain*32 : chain*32+32])
			return h
		}
		if goAlong(begin, func(int) int { return 15 - n }) != end {
			t.Errorf("P9: behind %d steps the rest leads to another end", n)
		}
	}
}

func TestChainsBeginApart(t *testing.T) {
	seen := map[hash.Hash]int{}
	count := 0
	for _, seed := range []string{hash.Of("seed").Text(), hash.Of("other").Text()} {
		for k := range 32 {
			for chain := range chainCount {
				seen[beginnings(seed, k)(chain)]++
				count++
			}
		}
	}
	if len(seen) != count {
		t.Errorf("P8: %d chains have %d beginnings", count, len(seen))
	}
}

func TestCutGivesHashesInOrder(t *testing.T) {
	a, b := hash.Of("a").Text(), hash.Of("b").Text()
	for n, want := range [][]string{{}, {a}, {a, b}} {
		if got := cut((a + b)[:n*api.HashSize]); !slices.Equal(got, want) {
			t.Errorf("P9: %d hashes are cut into %x", n, got)
		}
	}
}
