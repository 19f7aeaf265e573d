// Package book keeps a log of requests with their answers, the records that they made, and how many keys are used, in a journal.
package book

import (
	"strings"

	"auditbook/api"
	"auditbook/entry"
	"auditbook/event"
	"auditbook/journal"
	"auditbook/records"
	"auditbook/volume"
)

// keyMark is all that the journal has of a used key: which one it is, follows from how many are ahead of it.
const keyMark = "K"

// Book is a log, with what follows from it, and a count of used keys.
type Book struct {
	journal *journal.Journal
	log     []entry.Entry
	lasts   map[int]int // by client: the number of its last entry
	records records.Records
	keys    int
}

// Open gives the book that is on a volume; ErrCorrupt, if there is none.
func Open(v volume.Volume) (*Book, error) {
	j, found, err := journal.Open(v)
	if err != nil {
		return nil, err
	}
	b := &Book{journal: j, lasts: map[int]int{}, records: records.Records{}}
	for _, record := range found {
		if !b.read(record) {
			return nil, api.ErrCorrupt
		}
	}
	return b, nil
}

// read adds what a record of the journal has, and tells if that is anything.
func (b *Book) read(record string) bool {
	if record == keyMark {
		b.keys++
		return true
	}
	r, ok := entry.Decode(record)
	if ok {
		b.add(r)
	}
	return ok
}

// Take makes a whole request a new entry, which is sure; there must be room for it. ErrIO tells that it may be there, or not.
func (b *Book) Take(r api.Request) error {
	// The text is kept, and must not be the caller's.
	r.Text = strings.Clone(r.Text)
	if err := b.journal.Append(entry.Encode(r)); err != nil {
		return err
	}
	b.add(r)
	return nil
}

func (b *Book) add(r api.Request) {
	b.log = append(b.log, entry.Entry{Request: r, Answer: b.records.Do(r)})
	b.lasts[r.Client] = len(b.log)
}

// UseKey counts one more key as used, which is sure; there must be room for it. ErrIO tells that it may be used, or not.
func (b *Book) UseKey() error {
	if err := b.journal.Append(keyMark); err != nil {
		return err
	}
	b.keys++
	return nil
}

// Full tells if there is no room for one more entry, or used key.
func (b *Book) Full() bool { return b.journal.Full() }

// Entries is how many entries there are.
func (b *Book) Entries() int { return len(b.log) }

// Entry gives entry n, from 1 on.
func (b *Book) Entry(n int) entry.Entry { return b.log[n-1] }

// Events gives the bytes of the first n events, of which there must be so many.
func (b *Book) Events(n int) []string {
	all := make([]string, n)
	for i := range all {
		// An entry's request is whole, and so its event is, too.
		all[i], _ = event.Encode(b.log[i].Event())
	}
	return all
}

// Last is the number of a client's last entry, or 0 if it has none.
func (b *Book) Last(client int) int { return b.lasts[client] }

// LastNo is what No a client's last request had, or 0, which is below all, if it has none.
func (b *Book) LastNo(client int) int {
	n := b.Last(client)
	if n == 0 {
		return 0
	}
	return b.Entry(n).No
}

// Records is how many records there are.
func (b *Book) Records() int { return len(b.records) }

// Keys is how many keys are used.
func (b *Book) Keys() int { return b.keys }
