// Package book keeps a log of requests with their answers, and the records that they made, in a journal.
package book

import (
	"strings"

	"auditbook/api"
	"auditbook/entry"
	"auditbook/journal"
	"auditbook/records"
	"auditbook/volume"
)

// Book is a log, and what follows from it.
type Book struct {
	journal *journal.Journal
	log     []entry.Entry
	lasts   map[int]int // by client: the number of its last entry
	records records.Records
}

// Open gives the book that is on a volume; ErrCorrupt, if there is none.
func Open(v volume.Volume) (*Book, error) {
	j, found, err := journal.Open(v)
	if err != nil {
		return nil, err
	}
	b := &Book{journal: j, lasts: map[int]int{}, records: records.Records{}}
	for _, record := range found {
		r, ok := entry.Decode(record)
		if !ok {
			return nil, api.ErrCorrupt
		}
		b.add(r)
	}
	return b, nil
}

// Take makes a whole request a new entry, which is sure; there must be room for it. ErrIO tells that it may be there, or not.
func (b *Book) Take(r api.Request) error {
	// The text is kept, and must not be the caller's.
	r.Text = strings.Clone(r.Text)
	if err := b.journal.Append(entry.Encode(r)); err != nil {
		return err
	}
	b.add(r)
	return nil
}

func (b *Book) add(r api.Request) {
	b.log = append(b.log, entry.Entry{Request: r, Answer: b.records.Do(r)})
	b.lasts[r.Client] = len(b.log)
}

// Full tells if there is no room for one more entry.
func (b *Book) Full() bool { return b.journal.Full() }

// Entries is how many entries there are.
func (b *Book) Entries() int { return len(b.log) }

// Entry gives entry n, from 1 on.
func (b *Book) Entry(n int) entry.Entry { return b.log[n-1] }

// Last is the number of a client's last entry, or 0 if it has none.
func (b *Book) Last(client int) int { return b.lasts[client] }

// LastNo is what No a client's last request had, or 0, which is below all, if it has none.
func (b *Book) LastNo(client int) int {
	n := b.Last(client)
	if n == 0 {
		return 0
	}
	return b.Entry(n).No
}

// Records is how many records there are.
func (b *Book) Records() int { return len(b.records) }
