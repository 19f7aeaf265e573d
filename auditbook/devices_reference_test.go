package auditbook_test

import (
	"errors"
	"math/rand"

	"auditbook/api"
)

// errShaky is no number of the program's.
var errShaky = errors.New("the device shakes")

// shaky is a device by the document's words, with what they leave open drawn by lot: what a call that told an error did all the same, and what is there behind a failure of power.
type shaky struct {
	rnd    *rand.Rand
	sure   [][4]sector
	unsure []unsure
	fails  int // of so many calls one tells an error, if it is not 0
	told   int
}

type sector [api.Sector]byte

// unsure is a sector that was written and not flushed.
type unsure struct {
	block, at int
	sector
}

func newShaky(rnd *rand.Rand, blocks int) *shaky {
	return &shaky{rnd: rnd, sure: make([][4]sector, blocks)}
}

func (d *shaky) shakes() bool {
	shakes := d.fails > 0 && d.rnd.Intn(d.fails) == 0
	if shakes {
		d.told++
	}
	return shakes
}

func (d *shaky) Blocks() int { return len(d.sure) }

func (d *shaky) Read(i int) ([]byte, error) {
	if d.shakes() {
		return []byte(pattern(d.rnd.Intn(2 * api.Block))), errShaky
	}
	seen := d.sure[i]
	for _, u := range d.unsure {
		if u.block == i {
			seen[u.at] = u.sector
		}
	}
	var b []byte
	for _, s := range seen {
		b = append(b, s[:]...)
	}
	return b, nil
}

func (d *shaky) Write(i int, b []byte) error {
	shakes := d.shakes()
	for at := range 4 {
		if !shakes || d.rnd.Intn(2) == 0 {
			d.unsure = append(d.unsure, unsure{i, at, sector(b[at*api.Sector : (at+1)*api.Sector])})
		}
	}
	if shakes {
		return errShaky
	}
	return nil
}

func (d *shaky) Flush() error {
	if d.shakes() {
		return errShaky
	}
	for _, u := range d.unsure {
		d.sure[u.block][u.at] = u.sector
	}
	d.unsure = nil
	return nil
}

// cut lets the power fail, and come back.
func (d *shaky) cut() {
	for _, u := range d.unsure {
		if d.rnd.Intn(2) == 0 {
			d.sure[u.block][u.at] = u.sector
		}
	}
	d.unsure = nil
}
