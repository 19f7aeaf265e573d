// Package volume is a device whose errors are thrown, so that what is done to its blocks reads straight on, and caught in one place.
package volume

import "auditbook/api"

// Volume is a device of a size that is allowed.
type Volume struct {
	api.Device
	size int
}

// Of makes a volume of a device, or tells ErrSize if it has too few blocks, or too many.
func Of(d api.Device) (Volume, error) {
	size := 0
	// The blocks are counted once, for a device may count otherwise the next time. A nil device has none.
	if Catch(func() { size = d.Blocks() }) != nil || size < api.MinBlocks || size > api.MaxBlocks {
		return Volume{}, api.ErrSize
	}
	return Volume{Device: d, size: size}, nil
}

// Size is how many blocks there are.
func (v Volume) Size() int { return v.size }

// Block gives the bytes of block i, or throws.
func (v Volume) Block(i int) [api.Block]byte {
	got, err := v.Read(i)
	throw(err)
	// What the device gives stays the device's, and may be shorter than a block.
	var b [api.Block]byte
	copy(b[:], got)
	return b
}

// Lay writes block i, or throws.
func (v Volume) Lay(i int, b [api.Block]byte) { throw(v.Write(i, b[:])) }

// Settle makes sure of all that was laid, or throws.
func (v Volume) Settle() { throw(v.Flush()) }

func throw(err error) {
	if err != nil {
		panic(api.ErrIO)
	}
}

// Catch does something, and tells ErrIO if that threw. A device that panics by itself is no better than one that tells an error.
func Catch(do func()) (err error) {
	defer func() {
		if recover() != nil {
			err = api.ErrIO
		}
	}()
	do()
	return nil
}
