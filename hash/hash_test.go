package hash

import (
	"bytes"
	"crypto/sha256"
	"encoding/binary"
	"slices"
	"strings"
	"testing"
)

// long is a text in which no two pieces of a block's length are the same.
func long(n int) string {
	b := make([]byte, n)
	for i := range b {
		b[i] = byte(i*i>>3 + i*7)
	}
	return string(b)
}

func TestNoText(t *testing.T) {
	want := Hash(sha256.Sum256(nil))
	if Of() != want || Of("") != want || Of("", "", "") != want {
		t.Error("P3: no text, empty texts: not the hash of nothing")
	}
}

func TestTextsOneBehindTheOther(t *testing.T) {
	text := long(3 * blockSize)
	want := Hash(sha256.Sum256([]byte(text)))
	for i := range len(text) + 1 {
		if Of(text[:i], text[i:]) != want {
			t.Fatalf("P3: cut at %d: another hash", i)
		}
		if Of(text[:i/2], text[i/2:i], "", text[i:]) != want {
			t.Fatalf("P3: cut at %d and %d: another hash", i/2, i)
		}
	}
	if Of(strings.Split(text, "")...) != want {
		t.Error("P3: cut into bytes: another hash")
	}
}

func TestListIsNotWrittenInto(t *testing.T) {
	list := []string{"a", "b", "c", "behind it"}
	kept := slices.Clone(list)
	first := Of(list[:3]...)
	if !slices.Equal(list, kept) {
		t.Errorf("P2: the list is now %q", list)
	}
	list[0] = "other"
	if Of("abc") != first {
		t.Error("P2: an answer hangs on a list that was handed in ahead of it")
	}
}

func TestTextsAreReadBack(t *testing.T) {
	for _, text := range []string{"", "abc", long(100)} {
		want := Of(text)
		if got, ok := Read(want.Text()); !ok || got != want {
			t.Errorf("%x is read as %x, %v", want, got, ok)
		}
	}
}

func TestTextsOfAnotherLengthAreNoHashes(t *testing.T) {
	for n := range 100 {
		got, ok := Read(long(n))
		if ok != (n == 32) {
			t.Errorf("a text of %d bytes is a hash: %v", n, ok)
		}
		if !ok && got != (Hash{}) {
			t.Errorf("a text of %d bytes is read as %x", n, got)
		}
	}
}

func TestPadFillsWholeBlocks(t *testing.T) {
	for n := range 4 * blockSize {
		padded := pad([]string{long(n)})
		if len(padded)%blockSize != 0 || len(padded) < n+1+lengthSize || len(padded) > n+lengthSize+blockSize {
			t.Fatalf("%d bytes are filled up to %d", n, len(padded))
		}
	}
}

// Texts whose count of bits needs more than 32 bits are too long to be tested whole.
func TestBitCountOfLongTexts(t *testing.T) {
	for _, length := range []uint64{0, 1, 31, 32, 1<<29 - 1, 1 << 29, 1<<29 + 1, 1<<61 - 1, 1 << 61} {
		if got, want := bitCount(length), binary.BigEndian.AppendUint64(nil, length*8); !bytes.Equal(got, want) {
			t.Errorf("P3: bits of %d bytes: %x, want %x", length, got, want)
		}
	}
}
