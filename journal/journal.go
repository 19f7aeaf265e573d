// Package journal keeps records on a volume, one behind the other, a block for each, which are all there or not at all whenever the power fails.
package journal

import (
	"auditbook/api"
	"auditbook/hash"
	"auditbook/volume"
)

// A record stands in the first sector of its block, since a sector is never written by half: [length] | record | noughts | check.
const (
	recordAt = 1
	checkAt  = recordAt + MaxRecord
	// MaxRecord is how many bytes a record has at most.
	MaxRecord = 18
)

// origin is what the header of every journal is linked to.
const origin = "auditbook, journal 1"

// Journal is what has been read of a volume, and goes on behind it.
type Journal struct {
	volume.Volume
	link hash.Hash // of all records so far, the header first
	used int       // blocks
}

// Format lays an empty journal on a volume.
func Format(v volume.Volume) error {
	return volume.Catch(func() {
		header, _ := pack(hash.Of(origin), stamp(v))
		v.Lay(0, header)
		// Once the header is sure, nothing that stands behind it belongs to a journal: only now can the rest be wiped without showing a piece of the old one.
		v.Settle()
		for i := range v.Size() - 1 {
			v.Lay(i+1, [api.Block]byte{})
		}
		v.Settle()
	})
}

// stamp is a text that no record on the volume can be linked to: it hangs on all of them.
func stamp(v volume.Volume) string {
	all := make([]string, v.Size())
	for i := range all {
		b := v.Block(i)
		all[i] = string(b[:])
	}
	return hash.Of(all...).Text()[:MaxRecord]
}

// Open finds the journal on a volume, with its records, and makes sure of them; ErrCorrupt, if there is none.
func Open(v volume.Volume) (*Journal, []string, error) {
	j := &Journal{Volume: v, link: hash.Of(origin)}
	var found []string
	err := volume.Catch(func() {
		found = j.read()
		// What was read may be no more than written: it must not change any more.
		if len(found) > 0 {
			j.Settle()
		}
	})
	if err != nil {
		return nil, nil, err
	}
	if len(found) == 0 {
		return nil, nil, api.ErrCorrupt
	}
	return j, found[1:], nil
}

// read gives all records, the header first, up to the first block that has none.
func (j *Journal) read() []string {
	var found []string
next:
	if !j.Full() {
		if record, link, ok := unpack(j.link, j.Block(j.used)); ok {
			found = append(found, record)
			j.link = link
			j.used++
			goto next
		}
	}
	return found
}

// Full tells if there is no room for one more record.
func (j *Journal) Full() bool { return j.used == j.Size() }

// Append makes sure of one more record, of at most MaxRecord bytes; there must be room for it. ErrIO tells that it may be there, or not.
func (j *Journal) Append(record string) error {
	return volume.Catch(func() {
		block, link := pack(j.link, record)
		j.Lay(j.used, block)
		j.Settle()
		j.link = link
		j.used++
	})
}

// pack gives the block of a record that stands behind those of a link, and the link with it. The check binds it to them, so that what is left over of another journal is never taken for one of its own.
func pack(link hash.Hash, record string) ([api.Block]byte, hash.Hash) {
	next := hash.Of(link.Text(), record)
	var b [api.Block]byte
	b[0] = byte(len(record))
	copy(b[recordAt:checkAt], record)
	copy(b[checkAt:api.Sector], next[:])
	return b, next
}

// unpack gives the record that a block has, if it stands behind those of a link, and the link with it.
func unpack(link hash.Hash, b [api.Block]byte) (string, hash.Hash, bool) {
	length := int(b[0])
	if length > MaxRecord {
		return "", hash.Hash{}, false
	}
	record := string(b[recordAt : recordAt+length])
	packed, next := pack(link, record)
	if sector(b) != sector(packed) {
		return "", hash.Hash{}, false
	}
	return record, next, true
}

// sector is the first one of a block. The others say nothing: they may be left over from something else.
func sector(b [api.Block]byte) [api.Sector]byte { return [api.Sector]byte(b[:api.Sector]) }
