package auditbook_test

import (
	"encoding/hex"
	"math"
	"math/rand"
	"slices"
	"strconv"
	"strings"
	"sync"
	"testing"

	"auditbook/api"
	"auditbook/auditbook"
	"auditbook/plain"
)

// formatted is a disk with an empty book.
func formatted(t *testing.T, blocks int) *api.Disk {
	t.Helper()
	d := api.NewDisk(blocks)
	if err := auditbook.Format(d); err != nil {
		t.Fatalf("P10: Format of %d blocks: %v", blocks, err)
	}
	return d
}

func mustOpen(t *testing.T, d api.Device, role, last int) *auditbook.Node {
	t.Helper()
	x, err := auditbook.Open(d, role, last, aSeed(), aHeight)
	if err != nil || x == nil {
		t.Fatalf("P11: Open as node %d of 0 to %d: %v", role, last, err)
	}
	return x
}

func wantNoNode(t *testing.T, what string, d api.Device, role, last int, seed string, height int, want error) {
	t.Helper()
	x, err := auditbook.Open(d, role, last, seed, height)
	wantErr(t, what, err, want)
	if x != nil {
		t.Errorf("P1: %s: a node with an error", what)
	}
}

func wantState(t *testing.T, what string, x *auditbook.Node, want api.State) {
	t.Helper()
	if got := x.See(); got != want {
		t.Errorf("%s: See tells %+v, want %+v", what, got, want)
	}
}

func wantPackets(t *testing.T, what string, x *auditbook.Node, r api.Request, want ...api.Packet) {
	t.Helper()
	got, err := x.Request(r)
	if err != nil || !slices.Equal(got, want) {
		t.Errorf("%s: Request of %+v: %+v, %v, want %+v", what, r, got, err, want)
	}
}

func wantRefused(t *testing.T, what string, x *auditbook.Node, r api.Request, want error) {
	t.Helper()
	wantNothing(t, what, x, want, func() ([]api.Packet, error) { return x.Request(r) })
}

// wantNothing: a call is answered with an error, and changes nothing.
func wantNothing(t *testing.T, what string, x *auditbook.Node, want error, call func() ([]api.Packet, error)) {
	t.Helper()
	before := x.See()
	got, err := call()
	wantErr(t, what, err, want)
	if got != nil {
		t.Errorf("P1: %s: packets with an error: %+v", what, got)
	}
	wantState(t, "P1: "+what+": behind it", x, before)
}

// create is a whole request of a client.
func create(client, no, patient int, text string) api.Request {
	return api.Request{Client: client, No: no, Op: api.Create, Patient: patient, Text: text}
}

// packet is one of bytes that are written in hexadecimal digits.
func packet(t *testing.T, to int, digits string) api.Packet {
	t.Helper()
	b, err := hex.DecodeString(strings.ReplaceAll(digits, " ", ""))
	if err != nil {
		t.Fatal(err)
	}
	return api.Packet{To: to, Bytes: string(b)}
}

func TestSizeOfADevice(t *testing.T) {
	for _, blocks := range []int{0, 1, 7, 401, 402, 999} {
		d := api.NewDisk(blocks)
		wantErr(t, "P10: Format of a wrong size", auditbook.Format(d), api.ErrSize)
		wantNoNode(t, "P11: Open of a wrong size, and all else wrong", d, 3, 1, "", 9, api.ErrSize)
		if d.Writes() != 0 {
			t.Errorf("P1: %d blocks were written with ErrSize", d.Writes())
		}
	}
	for _, blocks := range []int{8, 9, 100, 399, 400} {
		x := mustOpen(t, formatted(t, blocks), 0, 0)
		wantState(t, "P10: an empty book", x, api.State{})
	}
}

func TestEveryPlaceInAChain(t *testing.T) {
	d := formatted(t, 8)
	wantPackets(t, "P14: a request", mustOpen(t, d, 0, 0), create(1, 1, 1, ""), packet(t, 11, "41 00000001 00 01 00"))
	edges := []int{math.MinInt, -1 << 32, -1, 0, 1, 2, 3, 1 << 32, math.MaxInt}
	for _, role := range edges {
		for _, last := range edges {
			if 0 > role || role > last || last > 2 {
				wantNoNode(t, "P11: Open at no place, and with no seed", d, role, last, "", -1, api.ErrRole)
				continue
			}
			want := api.State{Log: 1, Records: 1}
			if role == last {
				want.Acked = 1
			}
			x := mustOpen(t, d, role, last)
			wantState(t, "P11: Open at a place", x, want)
			if role > 0 {
				wantRefused(t, "P14: a request at another node, and not whole", x, api.Request{}, api.ErrRole)
			}
		}
	}
}

func TestSeedOfANode(t *testing.T) {
	d := formatted(t, 8)
	for _, height := range wrongHeights() {
		wantNoNode(t, "P11: Open with a wrong height", d, 0, 0, aSeed(), height, api.ErrSeed)
	}
	for _, seed := range wrongSeeds() {
		wantNoNode(t, "P11: Open with a wrong seed", d, 0, 0, seed, 0, api.ErrSeed)
		wantNoNode(t, "P11: Open with a wrong seed, and no book", api.NewDisk(8), 0, 0, seed, 0, api.ErrSeed)
	}
	for height := range api.MaxHeight + 1 {
		if x, err := auditbook.Open(d, 0, 0, aSeed(), height); err != nil || x == nil {
			t.Errorf("P11: Open with height %d: %v", height, err)
		}
	}
}

func TestExampleOfOneNode(t *testing.T) {
	x := mustOpen(t, formatted(t, 8), 0, 0)
	amend := api.Request{Client: 1, No: 2, Op: api.Amend, Patient: 5, Version: 2}
	wantPackets(t, "P14: the example", x, create(1, 1, 5, "x"), packet(t, 11, "41 00000001 00 01 00"))
	wantPackets(t, "P14: the example again", x, create(1, 1, 5, "x"), packet(t, 11, "41 00000001 00 01 00"))
	wantPackets(t, "P13: the example's conflict", x, amend, packet(t, 11, "41 00000002 03 01 00"))
	wantRefused(t, "P14: the example's old request", x, create(1, 1, 5, "x"), api.ErrOld)
}

func TestExampleOfThreeNodes(t *testing.T) {
	x := mustOpen(t, formatted(t, 8), 0, 2)
	wantPackets(t, "P14: the example", x, create(1, 1, 5, "x"), packet(t, 1, "46 00000001 52 01 00000001 01 05 00 01 78"))
}

// did is what a request does, as a table tells it.
type did struct {
	op, patient, version int
	text                 string
	want                 api.Answer
}

// wantDone runs a table of requests of one client.
func wantDone(t *testing.T, x *auditbook.Node, table []did) {
	t.Helper()
	first := x.See().Log
	for i, c := range table {
		no := first + i + 1
		r := api.Request{Client: 9, No: no, Op: c.op, Patient: c.patient, Version: c.version, Text: c.text}
		b := []byte{'A', 0, 0, byte(no >> 8), byte(no), byte(c.want.Code), byte(c.want.Version), byte(len(c.want.Text))}
		wantPackets(t, "P13: row "+strconv.Itoa(i), x, r, api.Packet{To: 19, Bytes: string(b) + c.want.Text})
	}
}

func answer(code, version int, text string) api.Answer {
	return api.Answer{Code: code, Version: version, Text: text}
}

func TestEveryOperation(t *testing.T) {
	wantDone(t, mustOpen(t, formatted(t, 100), 0, 0), []did{
		{api.Read, 5, 0, "", answer(api.NotFound, 0, "")},
		{api.Amend, 5, 0, "a", answer(api.NotFound, 0, "")},
		{api.Redact, 5, 0, "", answer(api.NotFound, 0, "")},
		{api.History, 5, 0, "", answer(api.NotFound, 0, "")},
		{api.Create, 5, 8, "one", answer(api.Done, 1, "")},
		{api.Create, 5, 0, "two", answer(api.Exists, 0, "")},
		{api.Read, 5, 0, "", answer(api.Done, 1, "one")},
		{api.Read, 5, 1, "ignored", answer(api.Done, 1, "one")},
		{api.Read, 5, 2, "", answer(api.NotFound, 0, "")},
		{api.Read, 6, 0, "", answer(api.NotFound, 0, "")},
		{api.Amend, 5, 0, "two", answer(api.Conflict, 1, "")},
		{api.Amend, 5, 2, "two", answer(api.Conflict, 1, "")},
		{api.Amend, 5, 1, "", answer(api.Done, 2, "")},
		{api.Amend, 5, 1, "x", answer(api.Conflict, 2, "")},
		{api.Amend, 5, 2, "12345678", answer(api.Done, 3, "")},
		{api.Read, 5, 0, "", answer(api.Done, 3, "12345678")},
		{api.Read, 5, 2, "", answer(api.Done, 2, "")},
		{api.Read, 5, 1, "", answer(api.Done, 1, "one")},
		{api.Read, 5, 4, "", answer(api.NotFound, 0, "")},
		{api.History, 5, 8, "x", answer(api.Done, 3, "")},
		{api.Redact, 5, 1, "why", answer(api.Done, 3, "")},
		{api.Redact, 5, 0, "", answer(api.Redacted, 0, "")},
		{api.Read, 5, 0, "", answer(api.Redacted, 0, "")},
		{api.Read, 5, 8, "", answer(api.Redacted, 0, "")},
		{api.Amend, 5, 3, "x", answer(api.Redacted, 0, "")},
		{api.Amend, 5, 1, "x", answer(api.Redacted, 0, "")},
		{api.History, 5, 0, "", answer(api.Redacted, 3, "")},
		{api.Create, 5, 0, "new", answer(api.Exists, 0, "")},
		{api.Create, 99, 0, "\x00\xff", answer(api.Done, 1, "")},
		{api.Read, 99, 0, "", answer(api.Done, 1, "\x00\xff")},
	})
}

func TestManyVersions(t *testing.T) {
	table := []did{{api.Create, 1, 0, "v1", answer(api.Done, 1, "")}}
	for v := 1; v < 8; v++ {
		table = append(table, did{api.Amend, 1, v, "v" + strconv.Itoa(v+1), answer(api.Done, v+1, "")})
	}
	table = append(table,
		did{api.Amend, 1, 8, "v9", answer(api.TooMany, 8, "")},
		did{api.Amend, 1, 7, "v9", answer(api.Conflict, 8, "")},
		did{api.History, 1, 0, "", answer(api.Done, 8, "")},
		did{api.Read, 1, 0, "", answer(api.Done, 8, "v8")})
	for v := 1; v <= 8; v++ {
		table = append(table, did{api.Read, 1, v, "", answer(api.Done, v, "v"+strconv.Itoa(v))})
	}
	wantDone(t, mustOpen(t, formatted(t, 100), 0, 0), table)
}

func TestManyRecords(t *testing.T) {
	var table []did
	for patient := 80; patient < 100; patient++ {
		table = append(table, did{api.Create, patient, 0, "", answer(api.Done, 1, "")})
	}
	table = append(table,
		did{api.Create, 1, 0, "", answer(api.TooMany, 0, "")},
		did{api.Create, 80, 0, "", answer(api.Exists, 0, "")},
		did{api.Redact, 80, 0, "", answer(api.Done, 1, "")},
		did{api.Create, 1, 0, "", answer(api.TooMany, 0, "")},
		did{api.Create, 80, 0, "", answer(api.Exists, 0, "")})
	d := formatted(t, 100)
	x := mustOpen(t, d, 0, 0)
	wantDone(t, x, table)
	want := api.State{Log: 25, Acked: 25, Records: 20}
	wantState(t, "P11: 20 records, one of them redacted", x, want)
	wantState(t, "P11: the same opened again", mustOpen(t, d, 0, 0), want)
}

// requestNumber is one of a request's numbers, with its bounds.
type requestNumber struct {
	name      string
	of        func(r *api.Request) *int
	low, high int
}

func requestNumbers() []requestNumber {
	return []requestNumber{
		{"Client", func(r *api.Request) *int { return &r.Client }, 1, 9},
		{"No", func(r *api.Request) *int { return &r.No }, 1, 2147483647},
		{"Op", func(r *api.Request) *int { return &r.Op }, 1, 5},
		{"Patient", func(r *api.Request) *int { return &r.Patient }, 1, 99},
		{"Version", func(r *api.Request) *int { return &r.Version }, 0, 8},
	}
}

func TestRequestsThatAreNotWhole(t *testing.T) {
	d := formatted(t, 8)
	x := mustOpen(t, d, 0, 0)
	writes := d.Writes()
	for _, f := range requestNumbers() {
		for _, wrong := range []int{math.MinInt, f.low - 1<<32, f.low - 256, f.low - 1, f.high + 1, f.low + 256*1<<32, f.low + 1<<32, math.MaxInt} {
			r := create(1, 1, 1, "x")
			*f.of(&r) = wrong
			wantRefused(t, "P12: "+f.name+" "+strconv.Itoa(wrong), x, r, api.ErrRequest)
		}
	}
	for _, n := range []int{9, 10, 255, 256, 257, 264, 1 << 16} {
		wantRefused(t, "P12: a long text", x, create(1, 1, 1, pattern(n)), api.ErrRequest)
	}
	if d.Writes() != writes || d.Pending() != 0 {
		t.Error("P1: a request that is not whole was written")
	}
}

func TestEveryEdgeOfARequest(t *testing.T) {
	for _, f := range requestNumbers() {
		for _, edge := range []int{f.low, f.low + 1, f.high - 1, f.high} {
			r := api.Request{Client: 3, No: 77, Op: api.History, Patient: 5, Version: 4, Text: "t"}
			*f.of(&r) = edge
			x := mustOpen(t, formatted(t, 8), 0, 0)
			want, _, log := refLog(nil).request(r, 0, 8)
			wantPackets(t, "P12: "+f.name+" "+strconv.Itoa(edge), x, r, want...)
			wantState(t, "P12: "+f.name, x, log.state(true))
		}
	}
	for n := range api.MaxText + 1 {
		x := mustOpen(t, formatted(t, 8), 0, 0)
		wantDone(t, x, []did{
			{api.Create, 1, 0, pattern(n), answer(api.Done, 1, "")},
			{api.Read, 1, 0, "", answer(api.Done, 1, pattern(n))},
		})
	}
}

func TestNumbersOfClients(t *testing.T) {
	x := mustOpen(t, formatted(t, 30), 0, 0)
	wantPackets(t, "P14: client 2", x, create(2, 10, 1, "x"), packet(t, 12, "41 0000000a 00 01 00"))
	wantPackets(t, "P14: client 9, with a lower number", x, create(9, 1, 2, ""), packet(t, 19, "41 00000001 00 01 00"))
	for _, no := range []int{1, 9} {
		wantRefused(t, "P14: an old number", x, create(2, no, 3, ""), api.ErrOld)
	}
	other := api.Request{Client: 2, No: 10, Op: api.Redact, Patient: 1, Version: 3, Text: "other"}
	wantPackets(t, "P14: the same number with another request", x, other, packet(t, 12, "41 0000000a 00 01 00"))
	other.No = 0
	wantRefused(t, "P14: not whole, and old", x, other, api.ErrRequest)
	wantPackets(t, "P14: a number with a gap", x, create(2, math.MaxInt32, 3, ""), packet(t, 12, "41 7fffffff 00 01 00"))
	wantRefused(t, "P14: an old number behind the greatest", x, create(2, math.MaxInt32-1, 4, ""), api.ErrOld)
	wantState(t, "P14: three entries", x, api.State{Log: 3, Acked: 3, Records: 3})
}

// An answer is that of its time, whatever came behind it.
func TestAnsweredAgainTheSame(t *testing.T) {
	d := formatted(t, 30)
	x := mustOpen(t, d, 0, 0)
	read := api.Request{Client: 2, No: 1, Op: api.Read, Patient: 7}
	want := packet(t, 12, "41 00000001 00 01 03 616263")
	wantPackets(t, "P14", x, create(1, 1, 7, "abc"), packet(t, 11, "41 00000001 00 01 00"))
	wantPackets(t, "P14", x, read, want)
	wantPackets(t, "P14", x, api.Request{Client: 1, No: 2, Op: api.Redact, Patient: 7}, packet(t, 11, "41 00000002 00 01 00"))
	wantPackets(t, "P13: read again behind a Redact", x, read, want)
	wantPackets(t, "P13: read again behind Open", mustOpen(t, d, 0, 0), read, want)
}

func TestRoom(t *testing.T) {
	for _, blocks := range []int{8, 9, 50, 400} {
		d := formatted(t, blocks)
		x := mustOpen(t, d, 0, 0)
		for n := 1; n < blocks; n++ {
			if _, err := x.Request(create(1, n, 1, "x")); err != nil {
				t.Fatalf("P11: entry %d on %d blocks: %v", n, blocks, err)
			}
		}
		again := packet(t, 11, "41 "+hex.EncodeToString([]byte{0, 0, byte((blocks - 1) >> 8), byte(blocks - 1)})+" 02 00 00")
		for range 2 {
			wantState(t, "P11: a full book", x, api.State{Log: blocks - 1, Acked: blocks - 1, Records: 1})
			wantRefused(t, "P14: one more than there is room", x, create(1, blocks, 1, ""), api.ErrFull)
			wantRefused(t, "P14: a new client's", x, create(2, 1, 1, ""), api.ErrFull)
			wantRefused(t, "P14: an old one, and full", x, create(1, 1, 1, ""), api.ErrOld)
			wantRefused(t, "P14: one that is not whole, and full", x, create(0, 1, 1, ""), api.ErrRequest)
			wantPackets(t, "P14: the last one again", x, create(1, blocks-1, 1, ""), again)
			x = mustOpen(t, d, 0, 0)
		}
	}
}

func TestForwardsOfTheFirstNode(t *testing.T) {
	for last := 1; last <= 2; last++ {
		d := formatted(t, 20)
		x := mustOpen(t, d, 0, last)
		var log refLog
		for n := 1; n <= 7; n++ {
			r := api.Request{Client: n%2 + 1, No: 1000 * n, Op: n%5 + 1, Patient: 90 + n, Version: n, Text: pattern(n)}
			log = append(log, r)
			wantPackets(t, "P14: a new entry", x, r, log.forward(1, n))
			wantPackets(t, "P14: the same again", x, r, log.forwards(1, 1)...)
			wantState(t, "P11: not the last node", x, log.state(false))
		}
		x = mustOpen(t, d, 0, last)
		wantState(t, "P11: not the last node, opened again", x, log.state(false))
		wantPackets(t, "P14: at most four", x, log[5], log.forwards(1, 1)...)
		wantRefused(t, "P14: an old one", x, log[3], api.ErrOld)
	}
}

func TestManyRequestsAsTheReference(t *testing.T) {
	for last := range 3 {
		for trial := range 12 {
			rnd := rand.New(rand.NewSource(int64(trial*3 + last)))
			blocks := 8 + rnd.Intn(150)
			d := formatted(t, blocks)
			x := mustOpen(t, d, 0, last)
			var log refLog
			for step := range 250 {
				r := anyRequest(rnd, step/3)
				want, err, then := log.request(r, last, blocks)
				if log = then; err == api.OK {
					wantPackets(t, "P13, P14", x, r, want...)
				} else {
					wantRefused(t, "P14", x, r, err)
				}
				if rnd.Intn(10) == 0 {
					x = mustOpen(t, d, 0, last)
				}
				wantState(t, "P11", x, log.state(last == 0))
			}
			if t.Failed() {
				t.FailNow()
			}
		}
	}
}

func TestPlainIsTheSame(t *testing.T) {
	d := api.NewDisk(8)
	if err := plain.Format(d); err != nil {
		t.Fatalf("P10: Format: %v", err)
	}
	x, err := plain.Open(d, 0, 0, aSeed(), 0)
	if err != nil {
		t.Fatalf("P11: Open: %v", err)
	}
	wantPackets(t, "P14", x, create(1, 1, 5, "x"), packet(t, 11, "41 00000001 00 01 00"))
	if _, err = plain.Open(api.NewDisk(8), 0, 0, aSeed(), 0); plain.Told(err) != api.ErrCorrupt {
		t.Errorf("P11: Open of noughts: %v", err)
	}
}

func TestTextsOfNodesAreNotKept(t *testing.T) {
	d := formatted(t, 30)
	seed, seedBytes := lend(aSeed())
	x, err := auditbook.Open(d, 0, 0, seed, 1)
	if err != nil {
		t.Fatalf("P11: Open: %v", err)
	}
	scrub(seedBytes)
	text, textBytes := lend("abc")
	wantPackets(t, "P14", x, create(1, 1, 1, text), packet(t, 11, "41 00000001 00 01 00"))
	if string(textBytes) != "abc" {
		t.Error("P2: a request's text was written into")
	}
	scrub(textBytes)
	read := api.Request{Client: 1, No: 2, Op: api.Read, Patient: 1}
	wantPackets(t, "P2: a text was kept", x, read, packet(t, 11, "41 00000002 00 01 03 616263"))
	x = mustOpen(t, formatted(t, 30), 0, 1)
	text, textBytes = lend("abc")
	first := api.Request{Client: 1, No: 1, Op: api.Create, Patient: 1, Text: text}
	want := packet(t, 1, "46 00000001 52 01 00000001 01 01 00 03 616263")
	wantPackets(t, "P14", x, first, want)
	scrub(textBytes)
	wantPackets(t, "P2: a text was kept", x, first, want)
}

// scrub overwrites bytes that were lent.
func scrub(b []byte) {
	for i := range b {
		b[i] ^= 0xff
	}
}

func TestPacketsAreTheCallers(t *testing.T) {
	for last := range 2 {
		x := mustOpen(t, formatted(t, 8), 0, last)
		r := create(1, 1, 1, "x")
		first, err := x.Request(r)
		if err != nil {
			t.Fatal(err)
		}
		again, err := x.Request(r)
		if err != nil {
			t.Fatal(err)
		}
		want := again[0]
		first[0] = api.Packet{}
		_ = append(first[:0], api.Packet{To: 1}, api.Packet{To: 2})
		if again[0] != want {
			t.Error("P2: two lists of packets share memory")
		}
		again[0] = api.Packet{}
		wantPackets(t, "P2: packets that were handed out are kept", x, r, want)
	}
}

func TestNodesAtTheSameTime(t *testing.T) {
	var all sync.WaitGroup
	for i := range 8 {
		all.Go(func() {
			d := api.NewDisk(40)
			rnd := rand.New(rand.NewSource(int64(i % 4)))
			if err := auditbook.Format(d); err != nil {
				t.Errorf("P10: %v", err)
			}
			x, err := auditbook.Open(d, 0, 0, aSeed(), 0)
			if err != nil {
				t.Errorf("P11: %v", err)
				return
			}
			var log refLog
			for step := range 60 {
				r := anyRequest(rnd, step)
				want, wrong, then := log.request(r, 0, 40)
				log = then
				got, err := x.Request(r)
				if !slices.Equal(got, want) || plain.Told(err) != wrong {
					t.Errorf("P2: at the same time: %+v, %v, want %+v", got, err, want)
				}
			}
		})
	}
	all.Wait()
}

func FuzzRequest(f *testing.F) {
	f.Add([]byte{1, 1, 1, 5, 0, 1}, 0)
	f.Add([]byte{1, 1, 1, 5, 0, 1, 1, 2, 2, 5, 1, 3, 2, 1, 3, 5, 0, 0, 1, 3, 4, 5, 0, 0, 1, 4, 5, 5, 0, 0}, 0)
	f.Add([]byte{9, 255, 3, 99, 8, 8, 0, 0, 0, 0, 0, 0, 10, 1, 6, 100, 9, 9}, 2)
	f.Fuzz(func(t *testing.T, steps []byte, last int) {
		last = max(0, min(last, 2))
		x := mustOpen(t, formatted(t, 12), 0, last)
		var log refLog
		for ; len(steps) >= 6; steps = steps[6:] {
			r := api.Request{Client: int(steps[0]), No: int(steps[1]), Op: int(steps[2]), Patient: int(steps[3]), Version: int(steps[4]), Text: pattern(int(steps[5]))}
			if !refWhole(r) {
				wantRefused(t, "P12", x, r, api.ErrRequest)
				continue
			}
			want, err, then := log.request(r, last, 12)
			if log = then; err == api.OK {
				wantPackets(t, "P13, P14", x, r, want...)
			} else {
				wantRefused(t, "P14", x, r, err)
			}
			wantState(t, "P11", x, log.state(last == 0))
		}
	})
}

func refWhole(r api.Request) bool {
	whole := len(r.Text) <= 8
	for _, f := range requestNumbers() {
		n := *f.of(&r)
		whole = whole && f.low <= n && n <= f.high
	}
	return whole
}
