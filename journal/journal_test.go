package journal

import (
	"errors"
	"slices"
	"strings"
	"testing"

	"auditbook/api"
	"auditbook/volume"
)

func mustBe(t *testing.T, err error) {
	t.Helper()
	if err != nil {
		t.Fatal(err)
	}
}

func volumeOf(t *testing.T, d api.Device) volume.Volume {
	t.Helper()
	v, err := volume.Of(d)
	mustBe(t, err)
	return v
}

func formatted(t *testing.T, blocks int) *api.Disk {
	t.Helper()
	d := api.NewDisk(blocks)
	mustBe(t, Format(volumeOf(t, d)))
	return d
}

// wantRecords opens a disk's journal.
func wantRecords(t *testing.T, d *api.Disk, want ...string) *Journal {
	t.Helper()
	j, found, err := Open(volumeOf(t, d))
	if err != nil || !slices.Equal(found, want) {
		t.Fatalf("P11: found %q, %v, want %q", found, err, want)
	}
	return j
}

func TestRecordsOfEveryLength(t *testing.T) {
	d := formatted(t, 30)
	var all []string
	for n := range MaxRecord + 1 {
		j := wantRecords(t, d, all...)
		record := strings.Repeat("\xff", n)
		mustBe(t, j.Append(record))
		all = append(all, record)
		if d.Pending() != 0 {
			t.Errorf("P14: a record of %d bytes is not sure", n)
		}
	}
	wantRecords(t, d, all...)
}

func TestFull(t *testing.T) {
	d := formatted(t, 8)
	j := wantRecords(t, d)
	var all []string
	for range 7 {
		if j.Full() {
			t.Fatalf("P11: full with %d records on 8 blocks", len(all))
		}
		mustBe(t, j.Append("same"))
		all = append(all, "same")
	}
	if !j.Full() || !wantRecords(t, d, all...).Full() {
		t.Error("P11: not full with 7 records on 8 blocks")
	}
}

// A record is bound to all that stand ahead of it, and to its book.
func TestRecordsOfAnotherJournal(t *testing.T) {
	d := formatted(t, 8)
	j := wantRecords(t, d)
	for _, record := range []string{"a", "b", "c"} {
		mustBe(t, j.Append(record))
	}
	block := func(i int) []byte {
		b, err := d.Read(i)
		mustBe(t, err)
		return b
	}
	a, b := block(1), block(2)
	e := d.After(nil)
	e.Write(1, b)
	e.Write(2, a)
	wantRecords(t, e)
	e = d.After(nil)
	e.Write(3, b)
	wantRecords(t, e, "a", "b")
	e = d.After(nil)
	mustBe(t, Format(volumeOf(t, e)))
	e.Write(1, a)
	wantRecords(t, e)
	other := wantRecords(t, e)
	mustBe(t, other.Append("x"))
	e.Write(2, b)
	wantRecords(t, e, "x")
}

func TestEveryFormatMakesAnotherJournal(t *testing.T) {
	d := api.NewDisk(8)
	seen := map[string]bool{}
	for range 20 {
		mustBe(t, Format(volumeOf(t, d)))
		seen[d.Bytes()] = true
	}
	if len(seen) != 20 {
		t.Errorf("P10: of 20 empty journals %d are different", len(seen))
	}
}

func TestNoJournal(t *testing.T) {
	j, found, err := Open(volumeOf(t, api.NewDisk(8)))
	if j != nil || found != nil || !errors.Is(err, api.ErrCorrupt) {
		t.Errorf("P11: Open of noughts: %v, %q, %v", j, found, err)
	}
}
