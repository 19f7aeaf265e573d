package auditbook_test

import (
	"math/rand"
	"slices"
	"strconv"
	"sync"
	"testing"

	"auditbook/api"
	"auditbook/auditbook"
	"auditbook/plain"
)

func wantReceived(t *testing.T, what string, x *auditbook.Node, b string, want ...api.Packet) {
	t.Helper()
	got, err := x.Receive(b)
	if err != nil || !slices.Equal(got, want) {
		t.Errorf("%s: Receive of %q: %+v, %v, want %+v", what, b, got, err, want)
	}
}

func wantNotReceived(t *testing.T, what string, x *auditbook.Node, b string, want error) {
	t.Helper()
	wantNothing(t, what, x, want, func() ([]api.Packet, error) { return x.Receive(b) })
}

func wantTick(t *testing.T, what string, x *auditbook.Node, want ...api.Packet) {
	t.Helper()
	// A tick changes nothing, so the next one is the same.
	for range 2 {
		if got, err := x.Tick(); err != nil || !slices.Equal(got, want) {
			t.Errorf("%s: Tick: %+v, %v, want %+v", what, got, err, want)
		}
	}
}

// chainPlaces are all places of all chains.
func chainPlaces() [][2]int {
	return [][2]int{{0, 0}, {0, 1}, {1, 1}, {0, 2}, {1, 2}, {2, 2}}
}

// chainNode is a node at a place of a chain, whose book has just the entries of a log.
func chainNode(t *testing.T, role, last, blocks int, log refLog) (*api.Disk, *auditbook.Node) {
	t.Helper()
	d := formatted(t, blocks)
	x := mustOpen(t, d, 0, 0)
	for _, r := range log {
		if _, err := x.Request(r); err != nil {
			t.Fatalf("P14: Request of %+v: %v", r, err)
		}
	}
	return d, mustOpen(t, d, role, last)
}

// aLog has so many entries, of two clients.
func aLog(entries int) refLog {
	var log refLog
	for n := 1; n <= entries; n++ {
		log = append(log, api.Request{Client: n%2 + 1, No: 1000 * n, Op: n%5 + 1, Patient: 90 + n%9, Version: n % 9, Text: pattern(n % 9)})
	}
	return log
}

func ackTo(to, n int) api.Packet { return api.Packet{To: to, Bytes: ackBytes(n)} }
func askTo(to, n int) api.Packet { return api.Packet{To: to, Bytes: askBytes(n)} }

func TestExampleOfAChain(t *testing.T) {
	var chain []*auditbook.Node
	for role := range 3 {
		chain = append(chain, mustOpen(t, formatted(t, 8), role, 2))
	}
	forward := "46 00000001 52 01 00000001 01 05 00 01 78"
	b := packet(t, 0, forward).Bytes
	wantPackets(t, "P14: the example", chain[0], create(1, 1, 5, "x"), packet(t, 1, forward))
	wantReceived(t, "P15: the example", chain[1], b, packet(t, 2, forward))
	wantReceived(t, "P15: the example", chain[2], b, packet(t, 1, "4b 00000001"), packet(t, 11, "41 00000001 00 01 00"))
	wantReceived(t, "P15: the example", chain[1], ackBytes(1), packet(t, 0, "4b 00000001"))
	wantReceived(t, "P15: the example", chain[0], ackBytes(1))
	for _, x := range chain {
		wantState(t, "P15: the example", x, api.State{Log: 1, Acked: 1, Records: 1})
	}
}

func TestChainOfTwo(t *testing.T) {
	first, second := mustOpen(t, formatted(t, 8), 0, 1), mustOpen(t, formatted(t, 8), 1, 1)
	log := aLog(3)
	for n, r := range log {
		wantPackets(t, "P14", first, r, log.forward(1, n+1))
		wantReceived(t, "P15", second, forwardBytes(n+1, r), ackTo(0, n+1), log[:n+1].answerPacket(n+1))
		wantReceived(t, "P15", first, ackBytes(n+1))
		wantPackets(t, "P14: once more, acked", first, r, log.answerPacket(n+1))
	}
	for _, x := range []*auditbook.Node{first, second} {
		wantState(t, "P15", x, log.state(true))
	}
}

// wrongPackets are bytes that are none to a node.
func wrongPackets() []string {
	r := api.Request{Client: 3, No: 77, Op: api.Amend, Patient: 5, Version: 4, Text: "text"}
	whole := forwardBytes(1, r)
	wrong := []string{
		"F", "K", "Q", "K\x00\x00\x00", "Q\x00\x00\x00", "K\x00\x00\x00\x01\x00", "Q\x00\x00\x00\x01x", ackBytes(1) + ackBytes(1),
		ackBytes(1 << 31), askBytes(1 << 31), ackBytes(1<<32 - 1), askBytes(1<<32 - 1),
		forwardBytes(0, r), forwardBytes(1<<31, r), forwardBytes(1<<32-1, r), whole + "\x00", whole + whole, whole[5:],
		"k" + numberBytes(1), "q" + numberBytes(1), "A" + numberBytes(1), "R" + numberBytes(1), "\x00" + numberBytes(1), "F" + numberBytes(1),
		"A" + numberBytes(1) + "\x00\x01\x00", "K" + whole[1:], "Q" + whole[1:], "f" + whole[1:], whole[:5] + "E" + whole[6:],
		whole[:14] + "\x03text", whole[:14] + "\x05text", whole[:14] + "\xfftext", pattern(4), pattern(1 << 16),
	}
	for n := range whole {
		wrong = append(wrong, whole[:n])
	}
	for _, f := range requestNumbers() {
		for _, n := range []int{f.low - 1, f.high + 1} {
			part := r
			*f.of(&part) = n
			wrong = append(wrong, forwardBytes(1, part))
		}
	}
	r.Text = "123456789"
	return append(wrong, forwardBytes(1, r))
}

func TestBytesThatAreNoPacketToANode(t *testing.T) {
	log := aLog(2)
	for _, at := range chainPlaces() {
		d, x := chainNode(t, at[0], at[1], 8, log)
		writes := d.Writes()
		for _, b := range wrongPackets() {
			wantNotReceived(t, "P15: no packet at node "+strconv.Itoa(at[0]), x, b, api.ErrCode)
		}
		if at[0] > 0 {
			got, err := x.Tick()
			if err != nil || len(got) == 0 || got[0] != askTo(at[0]-1, 2) {
				t.Errorf("P16: Tick behind what was no Forward: %+v, %v", got, err)
			}
		}
		if d.Writes() != writes || d.Pending() != 0 {
			t.Error("P1: bytes that are no packet were written")
		}
	}
}

// Bytes to be read are told apart from what they say: every edge of a packet is one.
func TestEveryEdgeOfAPacket(t *testing.T) {
	for _, n := range []int{1, 2, 3, 127, 128, 255, 256, 1 << 16, 1 << 24, api.MaxNumber - 1, api.MaxNumber} {
		_, x := chainNode(t, 1, 2, 8, nil)
		if n == 1 {
			wantReceived(t, "P15: Forward 1", x, forwardBytes(n, create(1, 1, 1, "")), api.Packet{To: 2, Bytes: forwardBytes(1, create(1, 1, 1, ""))})
		} else {
			wantReceived(t, "P15: a Forward with a gap", x, forwardBytes(n, create(1, 1, 1, "")), askTo(0, 0))
		}
	}
	for _, f := range requestNumbers() {
		for _, edge := range []int{f.low, f.low + 1, f.high - 1, f.high} {
			r := api.Request{Client: 3, No: 77, Op: api.History, Patient: 5, Version: 4, Text: "t"}
			*f.of(&r) = edge
			_, x := chainNode(t, 2, 2, 8, nil)
			wantReceived(t, "P15: "+f.name+" "+strconv.Itoa(edge), x, forwardBytes(1, r), ackTo(1, 1), refLog{r}.answerPacket(1))
		}
	}
	for n := range api.MaxText + 1 {
		_, x := chainNode(t, 1, 1, 8, nil)
		read := api.Request{Client: 1, No: 2, Op: api.Read, Patient: 1}
		log := refLog{create(1, 1, 1, pattern(n)), read}
		wantReceived(t, "P15: a text", x, forwardBytes(1, log[0]), ackTo(0, 1), log[:1].answerPacket(1))
		wantReceived(t, "P15: a text read", x, forwardBytes(2, read), ackTo(0, 2), log.answerPacket(2))
	}
}

func TestPlacesOfPackets(t *testing.T) {
	log := aLog(2)
	for _, at := range chainPlaces() {
		role, last := at[0], at[1]
		_, x := chainNode(t, role, last, 8, log)
		if role == 0 {
			for _, n := range []int{1, 2, 3, 4, api.MaxNumber} {
				wantNotReceived(t, "P15: a Forward to node 0", x, forwardBytes(n, create(1, 9999, 1, "")), api.ErrRole)
			}
			wantNotReceived(t, "P15: an old Forward to node 0", x, forwardBytes(3, create(1, 1, 1, "")), api.ErrRole)
		} else {
			wantReceived(t, "P15: a Forward", x, forwardBytes(9, create(1, 1, 1, "")), askTo(role-1, 2))
		}
		for _, n := range []int{0, 1, 2, 3, api.MaxNumber} {
			if role == last {
				wantNotReceived(t, "P15: an Ack to the last node", x, ackBytes(n), api.ErrRole)
				wantNotReceived(t, "P15: an Ask to the last node", x, askBytes(n), api.ErrRole)
			} else {
				wantReceived(t, "P15: an Ask", x, askBytes(n), log.forwards(role+1, n+1)...)
			}
		}
	}
}

func TestForwardOfANewEntry(t *testing.T) {
	for _, at := range [][2]int{{1, 2}, {1, 1}, {2, 2}} {
		role, last := at[0], at[1]
		d, x := chainNode(t, role, last, 20, nil)
		log := aLog(12)
		for n := 1; n <= len(log); n++ {
			want := []api.Packet{log.forward(role+1, n)}
			if role == last {
				want = []api.Packet{ackTo(role-1, n), log.answerPacket(n)}
			}
			wantReceived(t, "P15: a new entry", x, forwardBytes(n, log[n-1]), want...)
			wantState(t, "P15: a new entry", x, log[:n].state(role == last))
			if d.Pending() != 0 {
				t.Errorf("P15: entry %d is not sure", n)
			}
		}
		wantLog(t, "P15: opened again", d.After(nil), log)
	}
}

func TestForwardOfWhatIsThere(t *testing.T) {
	log := aLog(5)
	for _, at := range [][2]int{{1, 2}, {1, 1}, {2, 2}} {
		role, last := at[0], at[1]
		d, x := chainNode(t, role, last, 8, log)
		writes := d.Writes()
		acked := 0
		if role == last {
			acked = 5
		}
		for n := 1; n <= 5; n++ {
			wantReceived(t, "P15: an entry that is there", x, forwardBytes(n, log[n-1]), ackTo(role-1, acked))
			wantReceived(t, "P15: another one in its place", x, forwardBytes(n, create(9, 1, 1, "x")), ackTo(role-1, acked))
		}
		if role < last {
			wantReceived(t, "P15: an Ack", x, ackBytes(3), ackTo(role-1, 3))
			for n := 1; n <= 5; n++ {
				wantReceived(t, "P15: an entry that is there, 3 acked", x, forwardBytes(n, log[n-1]), ackTo(role-1, 3))
			}
		}
		if d.Writes() != writes {
			t.Error("P15: an entry that is there was written")
		}
	}
}

func TestForwardWithAGap(t *testing.T) {
	log := aLog(5)
	for _, at := range [][2]int{{1, 2}, {1, 1}, {2, 2}} {
		role, last := at[0], at[1]
		for entries := range 6 {
			d, x := chainNode(t, role, last, 8, log[:entries])
			writes := d.Writes()
			for _, n := range []int{entries + 2, entries + 3, entries + 100, api.MaxNumber} {
				wantReceived(t, "P15: a gap", x, forwardBytes(n, create(1, 9999, 1, "")), askTo(role-1, entries))
				wantReceived(t, "P15: a gap, and an old number", x, forwardBytes(n, create(1, 1, 1, "")), askTo(role-1, entries))
			}
			wantState(t, "P15: a gap", x, log[:entries].state(role == last))
			if d.Writes() != writes {
				t.Error("P15: a Forward with a gap was written")
			}
		}
	}
}

func TestForwardOfAnOldNumber(t *testing.T) {
	for _, at := range [][2]int{{1, 2}, {1, 1}, {2, 2}} {
		role, last := at[0], at[1]
		log := refLog{create(1, 10, 1, "x"), create(2, 1, 2, ""), create(1, 20, 3, "")}
		d, x := chainNode(t, role, last, 8, log)
		writes := d.Writes()
		for _, no := range []int{1, 10, 11, 19, 20} {
			wantNotReceived(t, "P15: an old number", x, forwardBytes(4, create(1, no, 1, "")), api.ErrRequest)
		}
		wantNotReceived(t, "P15: the other client's", x, forwardBytes(4, create(2, 1, 1, "")), api.ErrRequest)
		if d.Writes() != writes {
			t.Error("P15: an old number was written")
		}
		for _, r := range []api.Request{create(2, 2, 1, ""), create(3, 1, 1, ""), create(1, 21, 1, ""), create(1, api.MaxNumber, 1, "")} {
			log = append(log, r)
			if _, err := x.Receive(forwardBytes(len(log), r)); err != nil {
				t.Errorf("P15: a new number: %+v: %v", r, err)
			}
		}
		wantNotReceived(t, "P15: behind the greatest", x, forwardBytes(8, create(1, api.MaxNumber, 1, "")), api.ErrRequest)
		wantState(t, "P15: new numbers", x, log.state(role == last))
	}
}

func TestForwardToAFullBook(t *testing.T) {
	for _, at := range [][2]int{{1, 2}, {1, 1}, {2, 2}} {
		role, last := at[0], at[1]
		log := aLog(7)
		_, x := chainNode(t, role, last, 8, log[:6])
		if _, err := x.Receive(forwardBytes(7, log[6])); err != nil {
			t.Fatalf("P11: the last entry that there is room for: %v", err)
		}
		wantNotReceived(t, "P15: a full book", x, forwardBytes(8, create(1, 9999, 1, "")), api.ErrFull)
		wantNotReceived(t, "P15: a full book, a new client", x, forwardBytes(8, create(9, 1, 1, "")), api.ErrFull)
		wantNotReceived(t, "P15: a full book, and an old number", x, forwardBytes(8, create(1, 1, 1, "")), api.ErrRequest)
		wantReceived(t, "P15: a full book, and a gap", x, forwardBytes(9, create(1, 9999, 1, "")), askTo(role-1, 7))
		acked := log.state(role == last).Acked
		wantReceived(t, "P15: a full book, what is there", x, forwardBytes(7, log[6]), ackTo(role-1, acked))
	}
}

func TestAcks(t *testing.T) {
	log := aLog(6)
	for _, at := range [][2]int{{0, 1}, {0, 2}, {1, 2}} {
		role, last := at[0], at[1]
		d, x := chainNode(t, role, last, 20, log)
		writes := d.Writes()
		want := log.state(false)
		for _, n := range []int{0, 7, 8, api.MaxNumber, 2, 2, 1, 0, 7, 5, 3, 6, 6, 5, 7, api.MaxNumber} {
			var sent []api.Packet
			if n > want.Acked && n <= 6 {
				want.Acked = n
				if role > 0 {
					sent = append(sent, ackTo(role-1, n))
				}
			}
			wantReceived(t, "P15: an Ack at node "+strconv.Itoa(role), x, ackBytes(n), sent...)
			wantState(t, "P15: an Ack", x, want)
		}
		if d.Writes() != writes {
			t.Error("P15: an Ack was written")
		}
		x = mustOpen(t, d, role, last)
		wantState(t, "P11: acked at Open", x, log.state(false))
	}
}

func TestAsks(t *testing.T) {
	log := aLog(9)
	for _, at := range [][2]int{{0, 1}, {0, 2}, {1, 2}} {
		role, last := at[0], at[1]
		_, x := chainNode(t, role, last, 20, log)
		for range 2 {
			for n := range 12 {
				wantReceived(t, "P15: an Ask", x, askBytes(n), log.forwards(role+1, n+1)...)
			}
			wantReceived(t, "P15: an Ask", x, askBytes(api.MaxNumber-1))
			wantReceived(t, "P15: an Ask", x, askBytes(api.MaxNumber))
			// What is acked is handed on, too, to a node that asks for it.
			if _, err := x.Receive(ackBytes(7)); err != nil {
				t.Fatal(err)
			}
		}
	}
	_, x := chainNode(t, 0, 1, 8, nil)
	wantReceived(t, "P15: an Ask of an empty log", x, askBytes(0))
}

func TestTick(t *testing.T) {
	for entries := range 10 {
		log := aLog(entries)
		for _, at := range chainPlaces() {
			role, last := at[0], at[1]
			_, x := chainNode(t, role, last, 20, log)
			var want []api.Packet
			if role > 0 {
				want = append(want, askTo(role-1, entries))
			}
			if role < last {
				want = append(want, log.forwards(role+1, 1)...)
			}
			wantTick(t, "P16: behind Open", x, want...)
		}
	}
}

// Of what a node that is not 0 hears a Forward alone ends its asking, refused or not.
func TestTickBehindAForward(t *testing.T) {
	log := aLog(6)
	type heard struct {
		b    string
		want error
		new  bool
	}
	for _, at := range [][2]int{{1, 2}, {1, 1}, {2, 2}} {
		for _, c := range []heard{
			{forwardBytes(7, create(5, 1, 1, "")), nil, true},
			{forwardBytes(1, log[0]), nil, false},
			{forwardBytes(6, log[5]), nil, false},
			{forwardBytes(9, log[5]), nil, false},
			{forwardBytes(7, log[5]), api.ErrRequest, false},
		} {
			role, last := at[0], at[1]
			d, x := chainNode(t, role, last, 20, log)
			if _, err := x.Receive(c.b); plain.Told(err) != plain.Told(c.want) {
				t.Fatalf("P15: Receive of %q: %v, want %v", c.b, err, c.want)
			}
			var want []api.Packet
			if role < last {
				want = log.forwards(role+1, 1)
			}
			wantTick(t, "P16: behind a Forward", x, want...)
			entries := len(log)
			if c.new {
				entries++
			}
			x = mustOpen(t, d, role, last)
			wantTick(t, "P16: opened again", x, append([]api.Packet{askTo(role-1, entries)}, want...)...)
		}
		role, last := at[0], at[1]
		_, x := chainNode(t, role, last, 8, aLog(7))
		wantNotReceived(t, "P15: a full book", x, forwardBytes(8, create(5, 1, 1, "")), api.ErrFull)
		if role == last {
			wantTick(t, "P16: behind a Forward to a full book", x)
		} else {
			wantTick(t, "P16: behind a Forward to a full book", x, aLog(7).forwards(role+1, 1)...)
		}
	}
}

func TestTickBehindOtherPackets(t *testing.T) {
	log := aLog(6)
	for _, b := range append(wrongPackets(), ackBytes(0), ackBytes(9), askBytes(0), askBytes(9)) {
		for _, at := range [][2]int{{1, 2}, {1, 1}, {2, 2}} {
			role, last := at[0], at[1]
			_, x := chainNode(t, role, last, 20, log)
			x.Receive(b)
			x.Request(create(1, 9999, 1, ""))
			want := []api.Packet{askTo(role-1, 6)}
			if role < last {
				want = append(want, log.forwards(role+1, 1)...)
			}
			wantTick(t, "P16: behind "+strconv.Quote(b[:min(5, len(b))]), x, want...)
		}
	}
}

func TestTickBehindAcks(t *testing.T) {
	log := aLog(9)
	for _, last := range []int{1, 2} {
		for role := range last {
			_, x := chainNode(t, role, last, 20, log)
			for n := 1; n <= 9; n++ {
				if _, err := x.Receive(ackBytes(n)); err != nil {
					t.Fatalf("P15: an Ack: %v", err)
				}
				want := log.forwards(role+1, n+1)
				if role > 0 {
					want = append([]api.Packet{askTo(role-1, 9)}, want...)
				}
				wantTick(t, "P16: behind an Ack", x, want...)
			}
		}
	}
}

func TestTickOfANodeAlone(t *testing.T) {
	_, x := chainNode(t, 0, 0, 8, nil)
	wantTick(t, "P16: alone", x)
	wantPackets(t, "P14", x, create(1, 1, 1, ""), packet(t, 11, "41 00000001 00 01 00"))
	wantTick(t, "P16: alone", x)
}

// Node 0 answers by itself for what it knows to be in all logs.
func TestRequestOnceMoreBehindAcks(t *testing.T) {
	for last := 1; last <= 2; last++ {
		var log refLog
		for client := 1; client <= 8; client++ {
			log = append(log, create(client, client*3, client, "text"))
		}
		d, x := chainNode(t, 0, last, 20, log)
		for acked := range len(log) + 1 {
			wantReceived(t, "P15: an Ack", x, ackBytes(acked))
			for n := 1; n <= len(log); n++ {
				want := []api.Packet{log.answerPacket(n)}
				if n > acked {
					want = log.forwards(1, acked+1)
				}
				wantPackets(t, "P14: once more", x, log[n-1], want...)
			}
		}
		wantState(t, "P14: once more", x, log.state(true))
		x = mustOpen(t, d, 0, last)
		wantPackets(t, "P14: once more, opened again", x, log[0], log.forwards(1, 1)...)
	}
}

func TestManyPacketsAsTheReference(t *testing.T) {
	for _, at := range chainPlaces() {
		for trial := range 15 {
			rnd := rand.New(rand.NewSource(int64(trial*9 + at[0]*3 + at[1])))
			w := newTwin(t, at[0], at[1], 8+rnd.Intn(60))
			for step := range 300 {
				switch rnd.Intn(12) {
				case 0, 1:
					w.request(anyRequest(rnd, step/3))
				case 2, 3:
					w.tick()
				case 4:
					if rnd.Intn(4) == 0 {
						w.reopen()
					}
				case 5:
					w.audit(rnd)
				default:
					w.receive(w.anyPacket(rnd, step/3))
				}
			}
			wantBook(t, "P15: what is on the device", w.d.(*api.Disk).After(nil), w.ref.log, w.ref.keys)
		}
	}
}

// post has packets under way, which are lost, doubled and exchanged, and what clients were told.
type post struct {
	rnd     *rand.Rand
	way     []api.Packet
	answers map[api.Packet]bool
}

func newPost(rnd *rand.Rand) *post { return &post{rnd: rnd, answers: map[api.Packet]bool{}} }

func (p *post) send(sent []api.Packet) { p.way = append(p.way, sent...) }

// deliver hands over packet i, and lets it stay under way if it is doubled.
func (p *post) deliver(i int, doubled bool, receive func(p api.Packet)) {
	next := p.way[i]
	if !doubled {
		p.way = slices.Delete(p.way, i, i+1)
	}
	if next.To >= 10 {
		p.answers[next] = true
		return
	}
	receive(next)
}

// step loses packets, or hands one over, if there are any.
func (p *post) step(receive func(p api.Packet)) {
	switch {
	case len(p.way) == 0:
	case len(p.way) > 60:
		p.way = p.way[30:]
	case p.rnd.Intn(6) == 0:
		p.way = slices.Delete(p.way, 0, 1)
	default:
		p.deliver(p.rnd.Intn(len(p.way)), p.rnd.Intn(6) == 0, receive)
	}
}

// settle lets ticks come, and hands over all packets in order. (It can't wait until there are no more: a node to which no Forward comes goes on asking.)
func (p *post) settle(tick func(), receive func(p api.Packet)) {
	for range 100 {
		tick()
		for len(p.way) > 0 {
			p.deliver(0, false, receive)
		}
	}
}

// wantAnswers: what clients were told is what the log says.
func (p *post) wantAnswers(t *testing.T, log refLog) {
	t.Helper()
	for n := range log {
		delete(p.answers, log.answerPacket(n+1))
	}
	for told := range p.answers {
		t.Fatalf("P14: an answer that is in no log: %+v", told)
	}
}

// lossy is a chain on devices that are sound, with a post that is not.
type lossy struct {
	*post
	nodes []*twin
}

func newLossy(t *testing.T, rnd *rand.Rand, last, blocks int) *lossy {
	t.Helper()
	l := &lossy{post: newPost(rnd)}
	for role := range last {
		l.nodes = append(l.nodes, newTwin(t, role, last, blocks))
	}
	// Its keys take room, too: without more of it, it could not take all entries of the others.
	l.nodes = append(l.nodes, newTwin(t, last, last, blocks+1<<aHeight))
	return l
}

func (l *lossy) receive(p api.Packet) { l.send(l.nodes[p.To].receive(p.Bytes)) }

func (l *lossy) tick() {
	for _, w := range l.nodes {
		l.send(w.tick())
	}
}

func (l *lossy) next(no int) {
	some := l.nodes[l.rnd.Intn(len(l.nodes))]
	switch what := l.rnd.Intn(20); {
	case what < 3:
		l.send(l.nodes[0].request(anyRequest(l.rnd, no)))
	case what < 6:
		l.send(some.tick())
	case what == 6 && l.rnd.Intn(3) == 0:
		some.reopen()
	case what == 7:
		some.audit(l.rnd)
	default:
		l.step(l.receive)
	}
}

func TestLossyChains(t *testing.T) {
	for last := range 3 {
		for trial := range 25 {
			rnd := rand.New(rand.NewSource(int64(trial*3 + last)))
			l := newLossy(t, rnd, last, 40+rnd.Intn(60))
			for step := range 500 {
				l.next(step / 5)
			}
			l.settle(l.tick, l.receive)
			log := l.nodes[0].ref.log
			for _, w := range l.nodes {
				if !slices.Equal(w.ref.log, log) || w.ref.acked() != len(log) {
					t.Fatalf("P16: node %d of 0 to %d has %d entries, %d acked, node 0 %d", w.ref.role, last, len(w.ref.log), w.ref.acked(), len(log))
				}
				want := log.state(true)
				want.Keys = w.ref.keys
				wantState(t, "P16: at rest", w.x, want)
			}
			l.wantAnswers(t, log)
		}
	}
}

func TestTextsOfPacketsAreNotKept(t *testing.T) {
	for _, at := range [][2]int{{1, 2}, {1, 1}, {2, 2}} {
		role, last := at[0], at[1]
		d, x := chainNode(t, role, last, 20, nil)
		log := refLog{create(1, 1, 1, "abc"), {Client: 1, No: 2, Op: api.Read, Patient: 1}}
		b, bytes := lend(forwardBytes(1, log[0]))
		sent, err := x.Receive(b)
		if err != nil || string(bytes) != forwardBytes(1, log[0]) {
			t.Fatalf("P2: Receive: %v, and the bytes are now %q", err, bytes)
		}
		want := []api.Packet{log.forward(role+1, 1)}
		if role == last {
			want = []api.Packet{ackTo(role-1, 1), log.answerPacket(1)}
		}
		scrub(bytes)
		if !slices.Equal(sent, want) {
			t.Errorf("P2: packets hang on the bytes still: %+v", sent)
		}
		if role < last {
			wantTick(t, "P2: a text was kept", x, log.forward(role+1, 1))
			wantReceived(t, "P2: a text was kept", x, askBytes(0), log.forward(role+1, 1))
			continue
		}
		wantReceived(t, "P2: a text was kept", x, forwardBytes(2, log[1]), ackTo(role-1, 2), log.answerPacket(2))
		wantLog(t, "P2: a text was kept", d, log)
	}
}

func TestPacketsOfChainsAreTheCallers(t *testing.T) {
	log := aLog(6)
	_, x := chainNode(t, 1, 2, 20, log)
	asks := []func() ([]api.Packet, error){
		x.Tick,
		func() ([]api.Packet, error) { return x.Receive(askBytes(0)) },
		func() ([]api.Packet, error) { return x.Receive(askBytes(2)) },
		func() ([]api.Packet, error) { return x.Receive(forwardBytes(1, log[0])) },
		func() ([]api.Packet, error) { return x.Receive(forwardBytes(9, log[0])) },
		x.Tick,
	}
	var lists, kept [][]api.Packet
	for range 2 {
		for i, ask := range asks {
			sent, err := ask()
			if err != nil || len(sent) == 0 {
				t.Fatalf("P15: call %d: %+v, %v", i, sent, err)
			}
			lists, kept = append(lists, sent), append(kept, slices.Clone(sent))
		}
	}
	for i, list := range lists {
		if !slices.Equal(list, kept[i]) {
			t.Errorf("P2: list %d shares memory with another", i)
		}
		whole := list[:cap(list)]
		for j := range whole {
			whole[j] = api.Packet{To: -1}
		}
	}
	wantReceived(t, "P2: packets that were handed out are kept", x, askBytes(0), log.forwards(2, 1)...)
}

func TestChainsAtTheSameTime(t *testing.T) {
	var all sync.WaitGroup
	for i := range 4 {
		all.Go(func() {
			var chain []*auditbook.Node
			for role := range 3 {
				d := api.NewDisk(12)
				if err := auditbook.Format(d); err != nil {
					t.Errorf("P10: %v", err)
				}
				x, err := auditbook.Open(d, role, 2, aSeed(), 0)
				if err != nil {
					t.Errorf("P11: %v", err)
					return
				}
				chain = append(chain, x)
			}
			log := aLog(6 + i%2)
			for n, r := range log {
				wantPackets(t, "P2", chain[0], r, log.forward(1, n+1))
				wantReceived(t, "P2", chain[1], forwardBytes(n+1, r), log.forward(2, n+1))
				wantReceived(t, "P2", chain[2], forwardBytes(n+1, r), ackTo(1, n+1), log.answerPacket(n+1))
			}
		})
	}
	all.Wait()
}

// FuzzReceive: whatever comes, a node does what the second make of it does.
func FuzzReceive(f *testing.F) {
	one := forwardBytes(1, create(1, 1, 1, "x"))
	f.Add(one, forwardBytes(2, create(1, 2, 1, "x")), ackBytes(1), 4)
	f.Add(forwardBytes(2, create(1, 2, 1, "x")), one, one, 2)
	f.Add(ackBytes(5), askBytes(4), forwardBytes(6, create(2, 9999, 1, "")), 3)
	f.Add(askBytes(api.MaxNumber), ackBytes(1<<31), "", 1)
	f.Add("A", "K", one+"x", 5)
	f.Fuzz(func(t *testing.T, first, second, third string, place int) {
		at := chainPlaces()[uint(place)%6]
		for _, entries := range []int{0, 5, 7} {
			d, x := chainNode(t, at[0], at[1], 8, aLog(entries))
			w := &twin{t: t, d: d, x: x, ref: refNode{log: aLog(entries), role: at[0], last: at[1], blocks: 8}}
			for _, b := range []string{first, second, third} {
				w.receive(b)
				w.tick()
			}
			w.reopen()
			w.tick()
		}
	})
}
