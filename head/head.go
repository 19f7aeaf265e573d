// Package head has what is signed: how many events there are, and the root of the tree over them, as bytes.
package head

import (
	"auditbook/api"
	"auditbook/hash"
	"auditbook/word"
)

const (
	mark   = 'H'
	rootAt = 1 + word.Size
	// Length is how many bytes a head has, ahead of its signature.
	Length = rootAt + api.HashSize
)

// Head stands for all events of a book.
type Head struct {
	Size int // how many they are
	Root hash.Hash
}

// Bytes gives those of a head, of which the size is 0 to MaxNumber.
func (h Head) Bytes() string {
	return string(word.Append([]byte{mark}, uint32(h.Size))) + h.Root.Text()
}

// Decode gives the head that has these bytes, and tells if there is one.
func Decode(b string) (Head, bool) {
	if len(b) != Length || b[0] != mark {
		return Head{}, false
	}
	size := word.Read([]byte(b[1:rootAt]))
	root, isHash := hash.Read(b[rootAt:])
	if size > api.MaxNumber || !isHash {
		return Head{}, false
	}
	return Head{Size: int(size), Root: root}, true
}
