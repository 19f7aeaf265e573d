package book

import (
	"errors"
	"testing"

	"auditbook/api"
	"auditbook/entry"
	"auditbook/event"
	"auditbook/journal"
	"auditbook/volume"
)

func formatted(t *testing.T, d *api.Disk) volume.Volume {
	t.Helper()
	v, err := volume.Of(d)
	if err == nil {
		err = journal.Format(v)
	}
	if err != nil {
		t.Fatal(err)
	}
	return v
}

func TestEveryRequestFitsIntoARecord(t *testing.T) {
	if entry.MaxSize > journal.MaxRecord {
		t.Errorf("requests have up to %d bytes, records %d", entry.MaxSize, journal.MaxRecord)
	}
}

func TestRecordsThatAreNoEntries(t *testing.T) {
	for _, record := range []string{"", "R", "k", "KK", "K\x00", "nothing known"} {
		v := formatted(t, api.NewDisk(8))
		j, _, err := journal.Open(v)
		if err == nil {
			err = j.Append(record)
		}
		if err != nil {
			t.Fatal(err)
		}
		if b, err := Open(v); b != nil || !errors.Is(err, api.ErrCorrupt) {
			t.Errorf("P11: Open with the record %q: %v, %v", record, b, err)
		}
	}
}

func TestEntriesAndTheirAnswers(t *testing.T) {
	v := formatted(t, api.NewDisk(8))
	b, err := Open(v)
	if err != nil {
		t.Fatal(err)
	}
	create := api.Request{Client: 1, No: 5, Op: api.Create, Patient: 3, Text: "abc"}
	read := api.Request{Client: 2, No: 1, Op: api.Read, Patient: 3}
	for _, r := range []api.Request{create, read} {
		if err := b.Take(r); err != nil {
			t.Fatal(err)
		}
	}
	again, err := Open(v)
	if err != nil {
		t.Fatal(err)
	}
	for _, b := range []*Book{b, again} {
		first := entry.Entry{Request: create, Answer: api.Answer{Version: 1}}
		second := entry.Entry{Request: read, Answer: api.Answer{Version: 1, Text: "abc"}}
		if b.Entries() != 2 || b.Entry(1) != first || b.Entry(2) != second {
			t.Errorf("P11: the log is %+v", b.log)
		}
		if b.Last(1) != 1 || b.Last(2) != 2 || b.Last(3) != 0 || b.Records() != 1 || b.Full() {
			t.Errorf("P11: lasts %v, %d records", b.lasts, b.Records())
		}
	}
}

func TestWhatIsNotSureIsNotInTheLog(t *testing.T) {
	d := api.NewDisk(8)
	b, err := Open(formatted(t, d))
	if err != nil {
		t.Fatal(err)
	}
	create := api.Request{Client: 1, No: 5, Op: api.Create, Patient: 3, Text: "abc"}
	for at := range 2 {
		d.Bad(at, 1)
		if err := b.Take(create); !errors.Is(err, api.ErrIO) {
			t.Errorf("P1: Take with an error of call %d: %v", at, err)
		}
		if b.Entries() != 0 || b.Last(1) != 0 || b.Records() != 0 {
			t.Errorf("P18: %d entries that are not sure", b.Entries())
		}
	}
}

// Keys and entries stand in one journal, in any order, and take the same room.
func TestKeysAmongEntries(t *testing.T) {
	v := formatted(t, api.NewDisk(8))
	b, err := Open(v)
	if err != nil {
		t.Fatal(err)
	}
	entries, keys := 0, 0
	for _, what := range "KEEKKEK" {
		if b.Full() {
			t.Errorf("P11: full with %d entries and %d keys", entries, keys)
		}
		if what == 'K' {
			keys++
			err = b.UseKey()
		} else {
			entries++
			err = b.Take(api.Request{Client: 1, No: entries, Op: api.Read, Patient: 1})
		}
		if err != nil {
			t.Fatal(err)
		}
		again, err := Open(v)
		if err != nil {
			t.Fatal(err)
		}
		for _, b := range []*Book{b, again} {
			if b.Entries() != entries || b.Keys() != keys || b.LastNo(1) != entries {
				t.Errorf("P11: %d entries and %d keys, want %d and %d", b.Entries(), b.Keys(), entries, keys)
			}
		}
	}
	if !b.Full() {
		t.Error("P11: 7 entries and keys are on 8 blocks, and there is room")
	}
}

func TestKeyThatIsNotSure(t *testing.T) {
	d := api.NewDisk(8)
	b, err := Open(formatted(t, d))
	if err != nil {
		t.Fatal(err)
	}
	for at := range 2 {
		d.Bad(at, 1)
		if err := b.UseKey(); !errors.Is(err, api.ErrIO) || b.Keys() != 0 {
			t.Errorf("P17: UseKey with an error of call %d: %v, %d keys are used", at, err, b.Keys())
		}
	}
}

func TestEvents(t *testing.T) {
	b, err := Open(formatted(t, api.NewDisk(8)))
	if err != nil {
		t.Fatal(err)
	}
	for n := 1; n <= 3; n++ {
		if err := b.Take(api.Request{Client: n, No: 5, Op: api.Create, Patient: 3, Text: "abc"}); err != nil {
			t.Fatal(err)
		}
	}
	for n := range 4 {
		all := b.Events(n)
		if len(all) != n {
			t.Errorf("P18: of the first %d events there are %d", n, len(all))
		}
		for i, bytes := range all {
			e, err := event.Decode(bytes)
			if err != nil || e != b.Entry(i+1).Event() {
				t.Errorf("P18: event %d is %+v, %v", i, e, err)
			}
		}
	}
}

func TestLastNo(t *testing.T) {
	v := formatted(t, api.NewDisk(8))
	b, err := Open(v)
	if err != nil {
		t.Fatal(err)
	}
	for _, r := range []api.Request{{Client: 1, No: 5}, {Client: 2, No: api.MaxNumber}, {Client: 1, No: 7}} {
		r.Op, r.Patient = api.Read, 1
		if err := b.Take(r); err != nil {
			t.Fatal(err)
		}
	}
	for client, want := range map[int]int{1: 7, 2: api.MaxNumber, 3: 0} {
		if got := b.LastNo(client); got != want {
			t.Errorf("P14: the last No of client %d is %d, want %d", client, got, want)
		}
	}
}
