package head

import (
	"strings"
	"testing"

	"auditbook/api"
	"auditbook/hash"
)

func TestHeadHasItsBytes(t *testing.T) {
	root := hash.Of("root")
	for size, number := range map[int]string{
		0:             "\x00\x00\x00\x00",
		1:             "\x00\x00\x00\x01",
		0x01020304:    "\x01\x02\x03\x04",
		api.MaxNumber: "\x7f\xff\xff\xff",
	} {
		h := Head{Size: size, Root: root}
		b := "H" + number + root.Text()
		if got := h.Bytes(); got != b || len(got) != Length {
			t.Errorf("P17: a head over %d: %x, want %x", size, got, b)
		}
		if got, ok := Decode(b); !ok || got != h {
			t.Errorf("P19: the head of %x: %+v, %v", b, got, ok)
		}
	}
}

func TestBytesThatAreNoHead(t *testing.T) {
	whole := Head{Size: 5, Root: hash.Of("root")}.Bytes()
	for _, b := range []string{
		"", "H", whole[1:], whole[:Length-1], whole + "x", "h" + whole[1:], "\x00" + whole[1:], strings.Repeat("H", 2*Length),
		"H\x80\x00\x00\x00" + whole[5:], "H\x80\x00\x00\x05" + whole[5:], "H\xff\xff\xff\xff" + whole[5:],
	} {
		if h, ok := Decode(b); ok || h != (Head{}) {
			t.Errorf("P19: %x is the head %+v", b, h)
		}
	}
}
