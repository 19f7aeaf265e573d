package volume

import (
	"errors"
	"testing"

	"auditbook/api"
)

// short is a device whose blocks are shorter than they should be.
type short struct{ *api.Disk }

func (short) Read(int) ([]byte, error) { return []byte{1, 2, 3}, nil }

func mustBeOf(t *testing.T, d api.Device) Volume {
	t.Helper()
	v, err := Of(d)
	if err != nil {
		t.Fatal(err)
	}
	return v
}

func TestSizes(t *testing.T) {
	for blocks, want := range map[int]error{0: api.ErrSize, 7: api.ErrSize, 8: nil, 400: nil, 401: api.ErrSize} {
		v, err := Of(api.NewDisk(blocks))
		if !errors.Is(err, want) {
			t.Errorf("P10: %d blocks: %v, want %v", blocks, err, want)
		}
		if err == nil && v.Size() != blocks {
			t.Errorf("P10: %d blocks are counted as %d", blocks, v.Size())
		}
	}
	if _, err := Of(nil); !errors.Is(err, api.ErrSize) {
		t.Errorf("P1: no device: %v", err)
	}
}

func TestBlocks(t *testing.T) {
	d := api.NewDisk(8)
	v := mustBeOf(t, d)
	b := [api.Block]byte{7, 127: 9}
	v.Lay(5, b)
	if v.Block(5) != b || v.Block(4) != ([api.Block]byte{}) || d.Pending() != 1 {
		t.Error("P10: a block is not what was laid")
	}
	if v.Settle(); d.Pending() != 0 {
		t.Error("P10: a block is not sure behind Settle")
	}
	if got := mustBeOf(t, short{d}).Block(0); got != ([api.Block]byte{1, 2, 3}) {
		t.Errorf("P1: a short block: %v", got)
	}
}

func TestErrorsAreThrownAndCaught(t *testing.T) {
	d := api.NewDisk(8)
	v := mustBeOf(t, d)
	for i, do := range []func(){
		func() { v.Block(0) },
		func() { v.Lay(0, [api.Block]byte{}) },
		func() { v.Settle() },
	} {
		if err := Catch(do); err != nil {
			t.Errorf("P1: call %d of a sound device: %v", i, err)
		}
		d.Bad(0, 1)
		behind := false
		err := Catch(func() {
			do()
			behind = true
		})
		if !errors.Is(err, api.ErrIO) || behind {
			t.Errorf("P1: call %d of a device that tells an error: %v", i, err)
		}
	}
}
