package auditbook_test

import (
	"bytes"
	"iter"
	"math"
	"math/rand"
	"slices"
	"strings"
	"testing"

	"auditbook/api"
	"auditbook/auditbook"
	"auditbook/plain"
)

// calls counts how many calls of a device go well ahead of an error, from none on, until whoever counts has met no error.
func calls(t *testing.T) iter.Seq[int] {
	return func(yield func(at int) bool) {
		for at := range 200 {
			if !yield(at) {
				return
			}
		}
		t.Fatal("P1: a device of few blocks is asked for too much")
	}
}

// filled is a disk with a book of so many entries, and its log.
func filled(t *testing.T, blocks, entries int) (*api.Disk, refLog) {
	t.Helper()
	d := formatted(t, blocks)
	return d, fill(t, mustOpen(t, d, 0, 0), entries)
}

// fill takes so many requests, with texts that stand nowhere else.
func fill(t *testing.T, x *auditbook.Node, entries int) refLog {
	t.Helper()
	var log refLog
	for n := 1; n <= entries; n++ {
		r := create(1+n%3, n, 1+n%12, "secret"+string(rune('A'+n%26)))
		want, _, then := log.request(r, 0, api.MaxBlocks)
		wantPackets(t, "P14", x, r, want...)
		log = then
	}
	return log
}

// wantLog opens a device on which no key is used, and holds it against a log.
func wantLog(t *testing.T, what string, d api.Device, log refLog) {
	t.Helper()
	wantBook(t, what, d, log, 0)
}

// wantBook opens a device, and holds against a log, and how many keys are used, all that it can be asked without a new entry or key.
func wantBook(t *testing.T, what string, d api.Device, log refLog, keys int) {
	t.Helper()
	x := mustOpen(t, d, 0, 0)
	want := log.state(true)
	want.Keys = keys
	wantState(t, what, x, want)
	for client := 1; client <= api.MaxClient; client++ {
		if n := log.last(client); n > 0 {
			wantPackets(t, what, x, log[n-1], log.answerPacket(n))
		}
	}
	wantForwards(t, what, d, log)
}

// wantForwards asks a device's book for its first entries as they are handed on.
func wantForwards(t *testing.T, what string, d api.Device, log refLog) {
	t.Helper()
	if len(log) > 0 {
		x := mustOpen(t, d, 0, 2)
		wantPackets(t, what, x, log[len(log)-1], log.forwards(1, 1)...)
	}
}

// found opens a disk, and tells which of the logs is there: none of them is -1, no book at all -2.
func found(t *testing.T, d *api.Disk, logs ...refLog) int {
	t.Helper()
	x, err := auditbook.Open(d, 0, 0, aSeed(), 0)
	if err != nil {
		wantErr(t, "P11: Open where no book need be", err, api.ErrCorrupt)
		return -2
	}
	i := slices.IndexFunc(logs, func(l refLog) bool { return l.state(true) == x.See() })
	if i >= 0 {
		wantLog(t, "P11: what was found", d.After(nil), logs[i])
	}
	return i
}

func TestNoBook(t *testing.T) {
	rnd := rand.New(rand.NewSource(1))
	for _, blocks := range []int{8, 30, 400} {
		wantNoNode(t, "P11: Open of noughts", api.NewDisk(blocks), 0, 0, aSeed(), 0, api.ErrCorrupt)
		for range 20 {
			wantNoNode(t, "P11: Open of anything", anyDisk(rnd, blocks), 0, 0, aSeed(), 0, api.ErrCorrupt)
		}
	}
	d, _ := filled(t, 8, 3)
	d.Write(0, make([]byte, api.Block))
	wantNoNode(t, "P11: Open without the first block", d, 0, 0, aSeed(), 0, api.ErrCorrupt)
	d.Off(1)
	wantNoNode(t, "P1: no book ahead of an error", d, 0, 0, aSeed(), 0, api.ErrCorrupt)
}

// anyDisk has blocks of any bytes, and some of one byte.
func anyDisk(rnd *rand.Rand, blocks int) *api.Disk {
	d := api.NewDisk(blocks)
	for i := range blocks {
		b := make([]byte, api.Block)
		if rnd.Read(b); rnd.Intn(4) == 0 {
			b = bytes.Repeat(b[:1], api.Block)
		}
		d.Write(i, b)
	}
	d.Flush()
	return d
}

// A bit that is another one makes of the book none, or one that ends there.
func TestEveryBitOfABookCounts(t *testing.T) {
	d, log := filled(t, 8, 3)
	for block := range 4 {
		old, _ := d.Read(block)
		for bit := range 8 * api.Sector {
			b := slices.Clone(old)
			b[bit/8] ^= 1 << (bit % 8)
			e := d.After(nil)
			e.Write(block, b)
			e.Flush()
			if block == 0 {
				wantNoNode(t, "P11: Open with another bit in the first block", e, 0, 0, aSeed(), 0, api.ErrCorrupt)
			} else {
				wantLog(t, "P11: Open with another bit", e, log[:block-1])
			}
		}
	}
}

func TestFormatWipes(t *testing.T) {
	d, _ := filled(t, 30, 29)
	if !strings.Contains(d.Bytes(), "secret") {
		t.Fatal("no text is on the disk")
	}
	if err := auditbook.Format(d); err != nil || d.Pending() != 0 {
		t.Fatalf("P10: Format: %v, %d writes are not sure", err, d.Pending())
	}
	wantLog(t, "P10: behind Format", d.After(nil), nil)
	if strings.Contains(d.Bytes(), "secret") {
		t.Error("P10: a text is there still behind Format")
	}
	log := fill(t, mustOpen(t, d, 0, 0), 29)
	wantLog(t, "P10: a new book behind Format", d.After(nil), log)
}

func TestFormatOfAnything(t *testing.T) {
	rnd := rand.New(rand.NewSource(2))
	for range 20 {
		d := anyDisk(rnd, 8+rnd.Intn(60))
		for range 2 {
			if err := auditbook.Format(d); err != nil {
				t.Fatalf("P10: Format of anything: %v", err)
			}
			wantLog(t, "P10: Format of anything", d.After(nil), nil)
			wantLog(t, "P10: Format of anything, used", d, fill(t, mustOpen(t, d, 0, 0), 7))
		}
	}
}

// Entries whose first block is gone, or another one, are not of the new book, wherever Format is cut off.
func TestFormatOverWhatIsLeftOver(t *testing.T) {
	old, log := filled(t, 10, 6)
	first, _ := formatted(t, 10).Read(0)
	for _, lost := range [][]byte{nil, []byte(pattern(api.Block)), first} {
		for at := range calls(t) {
			d := old.After(nil)
			d.Write(0, lost)
			d.Flush()
			before := found(t, d.After(nil), nil, log)
			d.Off(at)
			err := auditbook.Format(d)
			for _, keep := range keeps(d.Pending()) {
				if got := found(t, d.After(keep), nil, log); got != 0 && got != before || err == nil && got != 0 {
					t.Fatalf("P10: Format cut off behind %d calls: %v, then log %d", at, err, got)
				}
			}
			if err == nil {
				break
			}
		}
	}
}

// keeps has for so many writes what may be there of them: all choices if they are few, else some.
func keeps(writes int) [][]int {
	if writes == 0 {
		return [][]int{nil}
	}
	var all [][]int
	if writes <= 2 {
		for choice := range 1 << (4 * writes) {
			all = append(all, []int{choice & 15, choice >> 4})
		}
		return all
	}
	rnd := rand.New(rand.NewSource(int64(writes)))
	for range 40 {
		var keep []int
		for range writes {
			keep = append(keep, rnd.Intn(16))
		}
		all = append(all, keep)
	}
	return all
}

func TestFormatCutOff(t *testing.T) {
	old, log := filled(t, 9, 8)
	for at := range calls(t) {
		d := old.After(nil)
		d.Off(at)
		err := auditbook.Format(d)
		for _, keep := range keeps(d.Pending()) {
			got := found(t, d.After(keep), nil, log)
			if got < 0 || err == nil && got != 0 {
				t.Fatalf("P10: Format cut off behind %d calls: %v, then log %d", at, err, got)
			}
		}
		if err == nil {
			return
		}
		wantErr(t, "P1: Format cut off", err, api.ErrIO)
	}
}

func TestFormatThatFails(t *testing.T) {
	old, log := filled(t, 9, 8)
	for at := range calls(t) {
		d := old.After(nil)
		d.Bad(at, 1)
		err := auditbook.Format(d)
		if d.Told() == 0 {
			wantNil(t, "P10: Format of a sound device", err)
			return
		}
		if got := found(t, d, nil, log); got < 0 || err == nil && got != 0 {
			t.Fatalf("P10: Format that fails behind %d calls: %v, then log %d", at, err, got)
		}
		if err != nil {
			wantErr(t, "P1: Format that fails", err, api.ErrIO)
		}
		if err := auditbook.Format(d); err != nil || found(t, d.After(nil), nil) != 0 {
			t.Fatalf("P10: Format once more: %v", err)
		}
	}
}

func TestRequestCutOff(t *testing.T) {
	for _, entries := range []int{0, 1, 5, 7} {
		old, log := filled(t, 9, entries)
		r := create(9, 1, 50, "new")
		_, _, grown := log.request(r, 0, 9)
		for at := range calls(t) {
			d := old.After(nil)
			x := mustOpen(t, d, 0, 0)
			d.Off(at)
			_, err := x.Request(r)
			for _, keep := range keeps(d.Pending()) {
				got := found(t, d.After(keep), log, grown)
				if got < 0 || err == nil && got != 1 {
					t.Fatalf("P14: Request cut off behind %d calls: %v, then log %d", at, err, got)
				}
			}
			if err == nil {
				break
			}
			wantErr(t, "P1: Request cut off", err, api.ErrIO)
		}
	}
}

func TestRequestThatFails(t *testing.T) {
	for at := range calls(t) {
		d, log := filled(t, 9, 5)
		x := mustOpen(t, d, 0, 0)
		r := create(9, 1, 50, "new")
		_, _, grown := log.request(r, 0, 9)
		d.Bad(at, 1)
		sent, err := x.Request(r)
		if d.Told() == 0 {
			wantNil(t, "P14: Request of a sound device", err)
			return
		}
		if err != nil {
			wantErr(t, "P1: Request that fails", err, api.ErrIO)
			wantFailed(t, x, r)
		}
		if err != nil && sent != nil {
			t.Error("P1: packets with an error")
		}
		got := found(t, d, log, grown)
		if got < 0 || err == nil && got != 1 {
			t.Fatalf("P14: Request that fails behind %d calls: %v, then log %d", at, err, got)
		}
		wantPackets(t, "P14: once more", mustOpen(t, d, 0, 0), r, grown.answerPacket(6))
	}
}

func wantFailed(t *testing.T, x *auditbook.Node, r api.Request) {
	t.Helper()
	for _, again := range []api.Request{r, {}, create(1, 1, 1, ""), create(8, 1, 1, "")} {
		wantRefused(t, "P1: a node that has failed", x, again, api.ErrFailed)
	}
	for _, b := range []string{"", "no packet", ackBytes(1), askBytes(0), forwardBytes(1, r), forwardBytes(9, r)} {
		wantNotReceived(t, "P1: a node that has failed", x, b, api.ErrFailed)
	}
	wantNothing(t, "P1: Tick of a node that has failed", x, api.ErrFailed, x.Tick)
	head, err := x.Head()
	if wantErr(t, "P1: Head of a node that has failed", err, api.ErrFailed); head != "" {
		t.Errorf("P1: Head of a node that has failed: %q", head)
	}
	wantState(t, "P11: a node that has failed", x, api.State{})
}

// wantSureEvents: a last node has just the events of a log, whether it has failed or not.
func wantSureEvents(t *testing.T, x *auditbook.Node, log refLog) {
	t.Helper()
	n, events := len(log), log.events()
	if n > 0 {
		b, proof, err := x.Event(n-1, n)
		if err != nil || b != events[n-1] || !slices.Equal(proof, refInclusion(events, n-1)) {
			t.Errorf("P18: the last event: %x, %x, %v", b, proof, err)
		}
	}
	proof, err := x.Grown(n/2, n)
	if err != nil || !slices.Equal(proof, refConsistency(events, n/2, true)) {
		t.Errorf("P18: Grown(%d, %d): %x, %v", n/2, n, proof, err)
	}
	_, _, err = x.Event(n, n+1)
	wantErr(t, "P18: an event that is not sure", err, api.ErrIndex)
	_, err = x.Grown(0, n+1)
	wantErr(t, "P18: events that are not sure", err, api.ErrIndex)
}

// Where nothing is written, an error of the device is not met.
func TestRequestThatWritesNothing(t *testing.T) {
	d, log := filled(t, 9, 8)
	x := mustOpen(t, d, 0, 0)
	d.Off(0)
	last := log[7]
	wantPackets(t, "P14: the last one again", x, last, log.answerPacket(8))
	last.No--
	wantRefused(t, "P14: an old one", x, last, api.ErrOld)
	wantRefused(t, "P14: not whole", x, api.Request{}, api.ErrRequest)
	wantRefused(t, "P14: a full book", x, create(9, 1, 1, ""), api.ErrFull)
	wantPackets(t, "P14: the last one again", x, log[7], log.answerPacket(8))
}

func TestOpenThatFails(t *testing.T) {
	for at := range calls(t) {
		d, log := filled(t, 9, 5)
		d.Bad(at, 1)
		x, err := auditbook.Open(d, 0, 0, aSeed(), 0)
		if d.Told() == 0 {
			wantNil(t, "P11: Open of a sound device", err)
			return
		}
		if err != nil && x != nil {
			t.Error("P1: a node with an error")
		}
		if err != nil {
			wantErr(t, "P1: Open that fails", err, api.ErrIO)
		}
		wantLog(t, "P11: behind an Open that failed", d, log)
	}
}

// What Open saw must not go any more, though it was not sure before.
func TestWhatOpenFindsIsSure(t *testing.T) {
	d, log := filled(t, 9, 3)
	x := mustOpen(t, d, 0, 0)
	r := create(9, 1, 50, "new")
	d.Bad(1, 1)
	if _, err := x.Request(r); err == nil || d.Pending() == 0 {
		t.Fatalf("the entry was not left unsure: %v", err)
	}
	_, _, grown := log.request(r, 0, 9)
	y := mustOpen(t, d, 0, 0)
	if d.Pending() != 0 {
		t.Error("P11: what Open found is not sure")
	}
	want := y.See()
	for keep := range 16 {
		wantState(t, "P11: behind a failure of power", mustOpen(t, d.After([]int{keep}), 0, 0), want)
	}
	if want == grown.state(true) {
		log = grown
	}
	wantLog(t, "P11: what was found", d, log)
}

// wreck is what a device may have, while errors are told and the power fails.
type wreck struct {
	t      *testing.T
	rnd    *rand.Rand
	d      *shaky
	x      *auditbook.Node
	height int       // of the node
	books  []refNode // any of these may be there
	noBook bool      // or none
}

// step does one thing of those that a device meets.
func (w *wreck) step(no int) {
	w.t.Helper()
	w.d.fails = []int{0, 0, 4, 40}[w.rnd.Intn(4)]
	switch what := w.rnd.Intn(20); {
	case what == 0:
		w.format()
	case what < 3:
		w.d.cut()
		w.x = nil
	case what < 6 || w.x == nil:
		w.open()
	case what < 8:
		w.head()
	default:
		w.request(anyRequest(w.rnd, no))
	}
}

func (w *wreck) format() {
	w.x = nil
	told := w.d.told
	err := auditbook.Format(w.d)
	empty := refNode{blocks: w.d.Blocks()}
	if err == nil {
		w.books, w.noBook = []refNode{empty}, false
		return
	}
	w.books = append(w.books, empty)
	if plain.Told(err) != api.ErrIO || w.d.told == told {
		w.t.Errorf("P10: Format: %v, and %d errors told", err, w.d.told-told)
	}
}

func (w *wreck) open() {
	told := w.d.told
	w.height = w.rnd.Intn(4)
	x, err := auditbook.Open(w.d, 0, 0, aSeed(), w.height)
	w.x = x
	if plain.Told(err) == api.ErrCorrupt && w.noBook || plain.Told(err) == api.ErrIO && w.d.told > told {
		return
	}
	if err != nil {
		w.t.Fatalf("P11: Open: %v", err)
	}
	i := slices.IndexFunc(w.books, func(b refNode) bool { return b.state() == x.See() })
	if i < 0 {
		w.t.Fatalf("P11: Open found %+v, which can't be there", x.See())
	}
	there := w.books[i]
	there.reopen()
	w.books, w.noBook = []refNode{there}, false
	for client := 1; client <= api.MaxClient; client++ {
		if n := there.log.last(client); n > 0 {
			wantPackets(w.t, "P11: what was found", x, there.log[n-1], there.log.answerPacket(n))
		}
	}
}

// writes does what may be one thing more in the book, and tells if that failed as it may.
func (w *wreck) writes(wrong api.Errno, then refNode, call func() error) bool {
	told := w.d.told
	err := call()
	if w.d.told > told && wrong == api.OK && plain.Told(err) == api.ErrIO {
		wantFailed(w.t, w.x, create(1, 1, 1, ""))
		wantSureEvents(w.t, w.x, w.books[0].log)
		w.books, w.x = append(w.books, then), nil
		return true
	}
	if plain.Told(err) != wrong {
		w.t.Fatalf("P1: %v, want %v", err, wrong)
	}
	w.books = []refNode{then}
	return false
}

func (w *wreck) request(r api.Request) {
	then := w.books[0]
	want, wrong := then.request(r)
	var got []api.Packet
	failed := w.writes(wrong, then, func() (err error) {
		got, err = w.x.Request(r)
		return err
	})
	if !failed && !slices.Equal(got, want) {
		w.t.Fatalf("P14: Request of %+v: %+v, want %+v", r, got, want)
	}
}

// head: no key that has signed, or may have, signs anything else.
func (w *wreck) head() {
	then := w.books[0]
	want, wrong := then.sign(w.height)
	got := ""
	failed := w.writes(wrong, then, func() (err error) {
		got, err = w.x.Head()
		return err
	})
	if !failed && got != want || failed && got != "" {
		w.t.Fatalf("P17: Head: %.38x.., want %.38x..", got, want)
	}
}

func TestWrecks(t *testing.T) {
	for trial := range 150 {
		rnd := rand.New(rand.NewSource(int64(trial)))
		w := &wreck{t: t, rnd: rnd, d: newShaky(rnd, 8+rnd.Intn(40)), noBook: true}
		for step := range 300 {
			w.step(step)
		}
		if t.Failed() {
			t.FailNow()
		}
	}
}

// odd is a disk that does what no device should.
type odd struct {
	*api.Disk
	blocks func() int
	read   func(b []byte) []byte
	write  func(b []byte)
	err    error
}

func (d odd) Blocks() int {
	if d.blocks != nil {
		return d.blocks()
	}
	return d.Disk.Blocks()
}

func (d odd) Read(i int) ([]byte, error) {
	b, err := d.Disk.Read(i)
	if d.read != nil {
		b = d.read(b)
	}
	return b, err
}

func (d odd) Write(i int, b []byte) error {
	if d.err != nil {
		return d.err
	}
	err := d.Disk.Write(i, b)
	if d.write != nil {
		d.write(b)
	}
	return err
}

// askAll does all that a device can be asked for; what comes of it is not told.
func askAll(d api.Device) {
	auditbook.Format(d)
	for role := range 3 {
		x, err := auditbook.Open(d, role, 2, aSeed(), 0)
		if err != nil {
			continue
		}
		x.Request(create(1, 1, 1, "x"))
		x.Request(create(1, 2, 1, "x"))
		for _, b := range []string{forwardBytes(1, create(1, 1, 1, "x")), forwardBytes(2, create(1, 2, 1, "x")), ackBytes(1), askBytes(0)} {
			x.Receive(b)
			x.Tick()
			x.Head()
			x.Event(0, 1)
			x.Grown(0, 1)
		}
		x.See()
	}
}

func TestOddDevices(t *testing.T) {
	for _, n := range []int{math.MinInt, -1, 0, 7, 401, math.MaxInt} {
		d := odd{Disk: formatted(t, 8), blocks: func() int { return n }}
		wantErr(t, "P10: Format of a wrong size", auditbook.Format(d), api.ErrSize)
		wantNoNode(t, "P11: Open of a wrong size", d, 0, 0, aSeed(), 0, api.ErrSize)
	}
	for _, read := range []func(b []byte) []byte{
		func([]byte) []byte { return nil },
		func([]byte) []byte { return []byte{} },
		func(b []byte) []byte { return b[:min(1, len(b))] },
		func(b []byte) []byte { return b[:min(31, len(b))] },
		func(b []byte) []byte { return append(b, b...) },
		func([]byte) []byte { return bytes.Repeat([]byte{255}, api.Block) },
	} {
		askAll(odd{Disk: formatted(t, 8), read: read})
	}
	count := 0
	askAll(odd{Disk: formatted(t, 8), blocks: func() int { count += 392; return 8 + count%400 }})
}

func TestDevicesThatAreNone(t *testing.T) {
	var disk *api.Disk
	for _, d := range []api.Device{nil, disk, odd{}} {
		wantErr(t, "P1: Format of no device", auditbook.Format(d), api.ErrSize)
		wantNoNode(t, "P1: Open of no device", d, 0, 0, aSeed(), 0, api.ErrSize)
	}
	broken := &odd{Disk: formatted(t, 8)}
	x := mustOpen(t, broken, 0, 0)
	broken.write = func([]byte) { panic("a device's own") }
	wantErr(t, "P1: Format of a device that panics", auditbook.Format(broken), api.ErrIO)
	wantRefused(t, "P1: Request on a device that panics", x, create(1, 1, 1, ""), api.ErrIO)
	wantFailed(t, x, create(1, 1, 1, ""))
	broken.read = func([]byte) []byte { panic("a device's own") }
	wantNoNode(t, "P1: Open of a device that panics", broken, 0, 0, aSeed(), 0, api.ErrIO)
}

// Any error of a device is ErrIO, whatever it says.
func TestErrorsOfDevices(t *testing.T) {
	for _, told := range []error{errShaky, api.ErrFull, api.OK, &api.Fault{Op: "write", E: api.ErrOld}} {
		d := odd{Disk: formatted(t, 8)}
		x := mustOpen(t, &d, 0, 0)
		d.err = told
		if err := auditbook.Format(&d); plain.Told(err) != api.ErrIO {
			t.Errorf("P1: Format, told %v: %v", told, err)
		}
		if _, err := x.Request(create(1, 1, 1, "")); plain.Told(err) != api.ErrIO {
			t.Errorf("P1: Request, told %v: %v", told, err)
		}
	}
}

// Bytes that a device was handed, or handed out, may be written over at any time.
func TestBytesOfDevicesAreNotKept(t *testing.T) {
	var handed [][]byte
	d := odd{Disk: api.NewDisk(20)}
	d.read = func(b []byte) []byte {
		handed = append(handed, b)
		return b
	}
	d.write = func(b []byte) {
		handed = append(handed, b)
		scrub(b)
	}
	if err := auditbook.Format(d); err != nil {
		t.Fatalf("P10: Format: %v", err)
	}
	log := fill(t, mustOpen(t, d, 0, 0), 10)
	x := mustOpen(t, d, 0, 0)
	for _, b := range handed {
		scrub(b)
	}
	wantPackets(t, "P2: a device's bytes are kept", x, log[9], log.answerPacket(10))
	wantLog(t, "P2: a device's bytes are kept", d, log)
}

// A device counts its blocks as it likes once it is open.
func TestBlocksAreCountedAtOpen(t *testing.T) {
	n := 8
	d := odd{Disk: formatted(t, 8), blocks: func() int { return n }}
	x := mustOpen(t, d, 0, 0)
	n = 400
	fill(t, x, 7)
	wantRefused(t, "P11: the room at Open", x, create(9, 1, 1, ""), api.ErrFull)
}

func FuzzOpen(f *testing.F) {
	f.Add([]byte{}, 0)
	f.Add([]byte(pattern(api.Block)), 3)
	f.Add(bytes.Repeat([]byte{0}, 4*api.Sector), 0)
	f.Fuzz(func(t *testing.T, b []byte, at int) {
		d, log := api.NewDisk(8), refLog(nil)
		if at&1 == 1 {
			d, log = filled(t, 8, 4)
		}
		at = at >> 1 & 7
		d.Write(at, b)
		x, err := auditbook.Open(d, 0, 0, aSeed(), 0)
		if err != nil {
			wantErr(t, "P11: Open", err, api.ErrCorrupt)
		} else if x.See().Log > len(log) {
			t.Errorf("P11: Open found %+v", x.See())
		}
		if err := auditbook.Format(d); err != nil {
			t.Errorf("P10: Format: %v", err)
		}
		wantLog(t, "P10: Format", d.After(nil), nil)
	})
}
