package word

import (
	"bytes"
	"encoding/binary"
	"testing"
)

func TestHighByteFirst(t *testing.T) {
	if got := Append(nil, 0x01020304); !bytes.Equal(got, []byte{1, 2, 3, 4}) {
		t.Errorf("Append: %x", got)
	}
	if got := Read([]byte{1, 2, 3, 4, 5}); got != 0x01020304 {
		t.Errorf("Read: %x", got)
	}
}

func TestThereAndBack(t *testing.T) {
	for _, n := range []uint32{0, 1, 255, 256, 65535, 65536, 1<<24 - 1, 1 << 24, 1<<31 - 1, 1 << 31, 1<<32 - 1} {
		b := Append([]byte("x"), n)
		if want := binary.BigEndian.AppendUint32([]byte("x"), n); !bytes.Equal(b, want) {
			t.Errorf("Append of %d: %x, want %x", n, b, want)
		}
		if got := Read(b[1:]); got != n {
			t.Errorf("Read of the bytes of %d: %d", n, got)
		}
	}
}
