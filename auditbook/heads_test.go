package auditbook_test

import (
	"encoding/hex"
	"slices"
	"testing"

	"auditbook/api"
	"auditbook/auditbook"
	"auditbook/plain"
)

func openAs(t *testing.T, d api.Device, seed string, height int) *auditbook.Node {
	t.Helper()
	x, err := auditbook.Open(d, 0, 0, seed, height)
	if err != nil {
		t.Fatalf("P11: Open with height %d: %v", height, err)
	}
	return x
}

func mustHead(t *testing.T, x *auditbook.Node) string {
	t.Helper()
	head, err := x.Head()
	if err != nil || len(head) < 38 {
		t.Fatalf("P17: Head: %d bytes, %v", len(head), err)
	}
	return head
}

func wantHead(t *testing.T, what string, x *auditbook.Node, want string) {
	t.Helper()
	got, err := x.Head()
	if err != nil || got != want {
		t.Errorf("%s: Head: %.38x.., %v, want %.38x..", what, got, err, want)
	}
}

func wantNoHead(t *testing.T, what string, x *auditbook.Node, want error) {
	t.Helper()
	before := x.See()
	head, err := x.Head()
	if wantErr(t, what, err, want); head != "" {
		t.Errorf("P1: %s: a head with an error: %x", what, head)
	}
	wantState(t, "P1: "+what+": behind it", x, before)
}

// withKeys is a disk with a book of so many entries, of which keys are used over the first ones.
func withKeys(t *testing.T, blocks, entries, keys int) (*api.Disk, refLog) {
	t.Helper()
	d := formatted(t, blocks)
	x := openAs(t, d, aSeed(), api.MaxHeight)
	log := aLog(entries)
	for n := range max(entries, keys) {
		if n < keys {
			mustHead(t, x)
		}
		if n < entries {
			wantPackets(t, "P14", x, log[n], log.answerPacket(n+1))
		}
		// A head over as many entries comes again, unless the node is a new one.
		x = openAs(t, d, aSeed(), api.MaxHeight)
	}
	wantBook(t, "P17: entries and keys", d, log, keys)
	return d, log
}

// takeKnown takes requests whose events and heads were worked out elsewhere.
func takeKnown(t *testing.T, x *auditbook.Node) {
	t.Helper()
	for _, r := range []api.Request{
		create(1, 1, 5, "x"),
		{Client: 1, No: 2, Op: api.Amend, Patient: 5, Version: 2},
		{Client: 2, No: 70000, Op: api.Read, Patient: 5, Text: "why"},
		{Client: 1, No: 3, Op: api.Redact, Patient: 5},
		{Client: 3, No: 1, Op: api.History, Patient: 5},
	} {
		if _, err := x.Request(r); err != nil {
			t.Fatalf("P14: %v", err)
		}
	}
}

func TestKnownHeads(t *testing.T) {
	x := openAs(t, formatted(t, 30), aSeed(), 1)
	wantKnown := func(what, told, sum string) {
		t.Helper()
		head := mustHead(t, x)
		if hex.EncodeToString([]byte(head[:37])) != told || hex.EncodeToString([]byte(refSum(head))) != sum || len(head) != 2214 {
			t.Errorf("P17: %s: %x, in all %d bytes", what, head[:37], len(head))
		}
	}
	wantKnown("a head over nothing", "4800000000e3b0c44298fc1c149afbf4c8996fb92427ae41e4649b934ca495991b7852b855",
		"11e67526130c5fc40d12b0f69df3df380cc61cd3b43c6f28200d619d254e9f65")
	takeKnown(t, x)
	wantKnown("a head over 5", "48000000057870cf770673762316522238efde8695709d3661a408f305cef6a503dede221c",
		"8e6ccb8b3aac9a042136ba772aa365534b23b9b2a6d5872fc975957c9a237194")
}

func TestHeadOverEverySize(t *testing.T) {
	for height := range api.MaxHeight + 1 {
		keys := 1 << height
		d := formatted(t, 2*keys+8)
		x := openAs(t, d, aSeed(), height)
		log := aLog(keys + 1)
		for k := range keys {
			wantHead(t, "P17: with the next key", x, log[:k].signedHead(height, k))
			wantState(t, "P17: one more key", x, api.State{Log: k, Acked: k, Records: x.See().Records, Keys: k + 1})
			wantPackets(t, "P14", x, log[k], log[:k+1].answerPacket(k+1))
		}
		wantNoHead(t, "P17: all keys are used", x, api.ErrKeys)
		wantPackets(t, "P14: without keys", x, log[keys], log.answerPacket(keys+1))
		wantNoHead(t, "P17: all keys are used", x, api.ErrKeys)
		wantBook(t, "P17: all keys are used", d.After(nil), log, keys)
		wantNoHead(t, "P17: all keys are used, opened again", openAs(t, d, aSeed(), height), api.ErrKeys)
	}
}

func TestHeadAgain(t *testing.T) {
	d, log := filled(t, 30, 5)
	x := mustOpen(t, d, 0, 0)
	for range 3 {
		wantHead(t, "P17: again", x, log.signedHead(aHeight, 0))
		wantState(t, "P17: no key for the same head", x, api.State{Log: 5, Acked: 5, Records: 5, Keys: 1})
	}
	wantPackets(t, "P14: the last one again, which is no entry", x, log[4], log.answerPacket(5))
	wantRefused(t, "P14: an old one, which is no entry", x, create(log[4].Client, 1, 1, ""), api.ErrOld)
	wantHead(t, "P17: again, behind requests that are no entries", x, log.signedHead(aHeight, 0))
	x = mustOpen(t, d, 0, 0)
	wantHead(t, "P17: not signed since Open", x, log.signedHead(aHeight, 1))
	wantHead(t, "P17: again", x, log.signedHead(aHeight, 1))
	read := api.Request{Client: 9, No: 1, Op: api.Read, Patient: 90}
	_, _, grown := log.request(read, 0, 30)
	wantPackets(t, "P14", x, read, grown.answerPacket(6))
	wantHead(t, "P17: over one more", x, grown.signedHead(aHeight, 2))
	wantHead(t, "P17: over one more, again", x, grown.signedHead(aHeight, 2))
}

// The head that was signed comes again where no other could be made.
func TestHeadAgainWithoutKeysOrRoom(t *testing.T) {
	for _, blocks := range []int{8, 30} {
		for _, height := range []int{0, 1} {
			d := formatted(t, blocks)
			x := openAs(t, d, aSeed(), height)
			for used := range 1 << height {
				x = openAs(t, d, aSeed(), height)
				wantHead(t, "P17", x, refLog(nil).signedHead(height, used))
			}
			last := refLog(nil).signedHead(height, 1<<height-1)
			wantHead(t, "P17: the last key's again", x, last)
			d.Off(0)
			wantHead(t, "P17: the last key's again, without power", x, last)
			if d.Told() != 0 {
				t.Error("P17: the device is asked for a head that was signed")
			}
		}
	}
	d, log := filled(t, 8, 6)
	x := mustOpen(t, d, 0, 0)
	for range 2 {
		wantHead(t, "P17: on the last block", x, log.signedHead(aHeight, 0))
		wantRefused(t, "P11: full", x, create(9, 1, 1, ""), api.ErrFull)
	}
	wantNoHead(t, "P17: full, and not signed since Open", mustOpen(t, d, 0, 0), api.ErrFull)
}

func TestErrorsOfHeadInTheirOrder(t *testing.T) {
	full, _ := withKeys(t, 8, 3, 4)
	for _, at := range [][2]int{{0, 1}, {0, 2}, {1, 2}} {
		wantNoHead(t, "P17: not the last node", mustOpen(t, formatted(t, 8), at[0], at[1]), api.ErrRole)
		wantNoHead(t, "P17: not the last node, no keys, no room", mustOpen(t, full, at[0], at[1]), api.ErrRole)
	}
	for last := range api.MaxNodes {
		wantNoHead(t, "P17: no keys, no room", mustOpen(t, full, last, last), api.ErrKeys)
	}
	wantNoHead(t, "P17: keys, and no room", openAs(t, full, aSeed(), 3), api.ErrFull)
	roomy, _ := withKeys(t, 9, 3, 4)
	wantNoHead(t, "P17: room, and no keys", mustOpen(t, roomy, 0, 0), api.ErrKeys)
	if head := mustHead(t, openAs(t, roomy, aSeed(), 3)); head[37] != 4 {
		t.Errorf("P17: behind 4 keys key %d signs", head[37])
	}
}

// How many keys are used hangs on the device alone, and no key's number comes twice.
func TestKeysWithOtherHeightsAndSeeds(t *testing.T) {
	d, log := withKeys(t, 30, 2, 3)
	other := newRefKeys(refSum("other seed"))
	for _, height := range []int{0, 1} {
		x := openAs(t, d, aSeed(), height)
		wantState(t, "P11: more keys than there are", x, api.State{Log: 2, Acked: 2, Records: x.See().Records, Keys: 3})
		wantNoHead(t, "P17: more keys than there are", x, api.ErrKeys)
		wantNoHead(t, "P17: more keys than there are, another seed", openAs(t, d, other.seed, height), api.ErrKeys)
	}
	wantHead(t, "P17: another seed", openAs(t, d, other.seed, 2), log.message()+other.sign(2, 3, log.message()))
	wantNoHead(t, "P17: the last key of another seed", openAs(t, d, aSeed(), 2), api.ErrKeys)
	wantHead(t, "P17: a greater height", openAs(t, d, aSeed(), 3), log.signedHead(3, 4))
	wantHead(t, "P17: the greatest height", openAs(t, d, aSeed(), 5), log.signedHead(5, 5))
	wantBook(t, "P17: six keys", d, log, 6)
}

func TestKeysAreSeenAtEveryPlace(t *testing.T) {
	d, log := withKeys(t, 30, 4, 3)
	for _, at := range chainPlaces() {
		want := log.state(at[0] == at[1])
		want.Keys = 3
		wantState(t, "P11: keys", mustOpen(t, d, at[0], at[1]), want)
	}
}

// A used key takes the room of an entry, whatever comes first.
func TestKeysTakeRoom(t *testing.T) {
	for keys := range 7 {
		d, log := withKeys(t, 8, 7-keys, keys)
		for range 2 {
			wantRefused(t, "P11: full", openAs(t, d, aSeed(), 5), create(9, 1, 1, ""), api.ErrFull)
			wantNoHead(t, "P11: full", openAs(t, d, aSeed(), 5), api.ErrFull)
			wantRefused(t, "P11: full, on the first node", mustOpen(t, d, 0, 2), create(9, 1, 1, ""), api.ErrFull)
			for last := 1; last <= 2; last++ {
				forward := forwardBytes(len(log)+1, create(9, 1, 1, ""))
				wantNotReceived(t, "P11: full, on another node", mustOpen(t, d, 1, last), forward, api.ErrFull)
			}
		}
		d, log = withKeys(t, 9, 7-keys, keys)
		r := create(9, 1, 1, "")
		_, _, grown := log.request(r, 0, 400)
		wantPackets(t, "P11: not full", mustOpen(t, d, 0, 0), r, grown.answerPacket(8-keys))
		wantNoHead(t, "P11: full then", openAs(t, d, aSeed(), 5), api.ErrFull)
	}
	x := openAs(t, formatted(t, 400), aSeed(), 0)
	mustHead(t, x)
	log := fill(t, x, 398)
	wantRefused(t, "P11: full, of 400 blocks", x, create(9, 1, 1, ""), api.ErrFull)
	wantNoHead(t, "P17: all keys are used, and full", x, api.ErrKeys)
	want := log.state(true)
	want.Keys = 1
	wantState(t, "P11: full, of 400 blocks", x, want)
}

func TestFormatForgetsKeys(t *testing.T) {
	d, _ := withKeys(t, 12, 4, 6)
	if err := auditbook.Format(d); err != nil {
		t.Fatalf("P10: Format: %v", err)
	}
	wantBook(t, "P10: behind Format", d.After(nil), nil, 0)
	wantHead(t, "P17: behind Format", mustOpen(t, d, 0, 0), refLog(nil).signedHead(aHeight, 0))
}

// foundKeys opens a disk with a log, and tells how many keys are used.
func foundKeys(t *testing.T, d *api.Disk, log refLog) int {
	t.Helper()
	keys := mustOpen(t, d, 0, 0).See().Keys
	wantBook(t, "P17: what was found", d.After(nil), log, keys)
	return keys
}

func TestHeadCutOff(t *testing.T) {
	for _, c := range [][2]int{{0, 0}, {1, 0}, {5, 1}, {4, 3}, {7, 0}} {
		old, log := withKeys(t, 9, c[0], c[1])
		for at := range calls(t) {
			d := old.After(nil)
			x := mustOpen(t, d, 0, 0)
			d.Off(at)
			head, err := x.Head()
			for _, keep := range keeps(d.Pending()) {
				got := foundKeys(t, d.After(keep), log) - c[1]
				if got < 0 || got > 1 || err == nil && got != 1 {
					t.Fatalf("P17: Head cut off behind %d calls: %v, then %d more keys are used", at, err, got)
				}
			}
			if err == nil {
				if head != log.signedHead(aHeight, c[1]) {
					t.Errorf("P17: Head: %.38x..", head)
				}
				break
			}
			if wantErr(t, "P1: Head cut off", err, api.ErrIO); head != "" {
				t.Error("P1: a head with an error")
			}
		}
	}
}

func TestHeadThatFails(t *testing.T) {
	for at := range calls(t) {
		d, log := withKeys(t, 12, 5, 2)
		x := mustOpen(t, d, 0, 0)
		d.Bad(at, 1)
		head, err := x.Head()
		if d.Told() == 0 {
			wantNil(t, "P17: Head of a sound device", err)
			return
		}
		if err != nil {
			wantErr(t, "P1: Head that fails", err, api.ErrIO)
			wantFailed(t, x, create(9, 1, 1, ""))
			wantSureEvents(t, x, log)
		}
		if err != nil && head != "" {
			t.Error("P1: a head with an error")
		}
		used := foundKeys(t, d, log)
		if used < 2 || used > 3 || err == nil && used != 3 {
			t.Fatalf("P17: Head that fails behind %d calls: %v, then %d keys are used", at, err, used)
		}
		wantHead(t, "P17: once more", mustOpen(t, d, 0, 0), log.signedHead(aHeight, used))
	}
}

// A key must be on the device for sure as soon as its signature is there.
func TestHeadIsSureWhenItComesOut(t *testing.T) {
	d, log := withKeys(t, 12, 5, 2)
	mustHead(t, mustOpen(t, d, 0, 0))
	if d.Pending() != 0 || foundKeys(t, d.After(nil), log) != 3 {
		t.Error("P17: a key that has signed need not be used")
	}
}

// Where nothing is written, an error of the device is not met.
func TestAuditsThatWriteNothing(t *testing.T) {
	full, log := withKeys(t, 8, 3, 4)
	for _, c := range []struct {
		role, last, height int
		want               api.Errno
	}{{0, 1, 5, api.ErrRole}, {1, 2, 0, api.ErrRole}, {0, 0, 2, api.ErrKeys}, {2, 2, 0, api.ErrKeys}, {1, 1, 3, api.ErrFull}} {
		d := full.After(nil)
		x, err := auditbook.Open(d, c.role, c.last, aSeed(), c.height)
		wantNil(t, "P11: Open", err)
		d.Off(0)
		wantNoHead(t, "P17: without power", x, c.want)
		if c.role == c.last {
			wantSureEvents(t, x, log)
		}
		wantNoHead(t, "P17: without power", x, c.want)
		if d.Told() != 0 {
			t.Errorf("P17: node %d of 0 to %d asks its device where it need not", c.role, c.last)
		}
	}
}

func TestHeadOnDevicesThatAreOdd(t *testing.T) {
	for _, told := range []error{errShaky, api.ErrFull, api.OK, &api.Fault{Op: "write", E: api.ErrKeys}} {
		d := odd{Disk: formatted(t, 8)}
		x := mustOpen(t, &d, 0, 0)
		d.err = told
		if head, err := x.Head(); plain.Told(err) != api.ErrIO || head != "" {
			t.Errorf("P1: Head, told %v: %.38x.., %v", told, head, err)
		}
	}
	broken := &odd{Disk: formatted(t, 8)}
	x := mustOpen(t, broken, 0, 0)
	broken.write = func([]byte) { panic("a device's own") }
	if head, err := x.Head(); plain.Told(err) != api.ErrIO || head != "" {
		t.Errorf("P1: Head on a device that panics: %.38x.., %v", head, err)
	}
	wantFailed(t, x, create(1, 1, 1, ""))
}

// A node that has failed says so even where it has the head.
func TestHeadOfANodeThatHasFailed(t *testing.T) {
	for _, at := range chainPlaces() {
		d, log := filled(t, 9, 3)
		x := mustOpen(t, d, at[0], at[1])
		if at[0] == at[1] {
			mustHead(t, x)
		}
		d.Off(0)
		r := create(9, 1, 1, "")
		var err error
		if at[0] == 0 {
			_, err = x.Request(r)
		} else {
			_, err = x.Receive(forwardBytes(4, r))
		}
		wantErr(t, "P1: without power", err, api.ErrIO)
		wantNoHead(t, "P1: a node that has failed", x, api.ErrFailed)
		if at[0] == at[1] {
			wantSureEvents(t, x, log)
			continue
		}
		_, _, err = x.Event(0, 1)
		wantErr(t, "P18: not the last node, and failed", err, api.ErrRole)
		_, err = x.Grown(0, 1)
		wantErr(t, "P18: not the last node, and failed", err, api.ErrRole)
	}
}

func TestHeadsOfAChain(t *testing.T) {
	for last := 1; last <= 2; last++ {
		d, x := chainNode(t, last, last, 30, nil)
		log := aLog(6)
		for n, r := range log {
			if n%2 == 0 {
				wantHead(t, "P17: on a chain", x, log[:n].signedHead(aHeight, n/2))
			}
			wantReceived(t, "P15", x, forwardBytes(n+1, r), ackTo(last-1, n+1), log.answerPacket(n+1))
			wantReceived(t, "P15: once more, which is no entry", x, forwardBytes(n+1, r), ackTo(last-1, n+1))
		}
		wantHead(t, "P17: on a chain", x, log.signedHead(aHeight, 3))
		wantBook(t, "P17: on a chain", d, log, 4)
	}
}

func TestSeedsAndHeadsAreNotShared(t *testing.T) {
	seed, seedBytes := lend(aSeed())
	x := openAs(t, formatted(t, 30), seed, 1)
	want := refLog(nil).signedHead(1, 0)
	if scrub(seedBytes); mustHead(t, x) != want {
		t.Fatal("P2: the seed is kept")
	}
	first, second := mustHead(t, x), mustHead(t, x)
	lists := [][]byte{bytesOf(first), bytesOf(second)}
	if &lists[0][0] == &lists[1][0] {
		t.Error("P2: two heads share memory")
	}
	scrub(lists[0])
	if second != want || mustHead(t, x) != want {
		t.Error("P2: a head that was handed out is kept")
	}
	if !slices.Equal(seedBytes, scrubbed(aSeed())) {
		t.Error("P2: the seed was written into")
	}
}

func scrubbed(text string) []byte {
	b := []byte(text)
	scrub(b)
	return b
}
