package auditbook_test

import (
	"encoding/binary"
	"io"
	"math/rand"
	"slices"
	"strings"
	"testing"

	"auditbook/api"
	"auditbook/auditbook"
	"auditbook/plain"
)

func numberBytes(n int) string { return string(binary.BigEndian.AppendUint32(nil, uint32(n))) }
func ackBytes(n int) string    { return "K" + numberBytes(n) }
func askBytes(n int) string    { return "Q" + numberBytes(n) }

// refPacket is one to a node, of any kind.
type refPacket struct {
	kind byte
	n    int
	r    api.Request
}

// refParse reads a packet to a node, and tells if it is one.
func refParse(b string) (refPacket, bool) {
	in := strings.NewReader(b)
	var head struct {
		Kind byte
		N    int32
	}
	if binary.Read(in, binary.BigEndian, &head) != nil || head.N < 0 {
		return refPacket{}, false
	}
	p := refPacket{kind: head.Kind, n: int(head.N)}
	if p.kind != 'F' {
		return p, (p.kind == 'K' || p.kind == 'Q') && in.Len() == 0
	}
	var body struct {
		Mark, Client                 byte
		No                           int32
		Op, Patient, Version, Length byte
	}
	wrong := binary.Read(in, binary.BigEndian, &body)
	text, _ := io.ReadAll(in)
	p.r = api.Request{Client: int(body.Client), No: int(body.No), Op: int(body.Op), Patient: int(body.Patient), Version: int(body.Version), Text: string(text)}
	return p, wrong == nil && p.n > 0 && body.Mark == 'R' && int(body.Length) == len(text) && refWhole(p.r)
}

// refNode is a second make of P14 to P18: a log, and what a node knows besides.
type refNode struct {
	log        refLog
	role, last int
	blocks     int
	keys       int
	acks       int
	heard      bool
	head       string
	headOver   int
}

// room is how many entries there may be.
func (x *refNode) room() int { return x.blocks - 1 - x.keys }

func (x *refNode) acked() int {
	if x.role == x.last {
		return len(x.log)
	}
	return x.acks
}

func (x *refNode) state() api.State {
	s := x.log.state(false)
	s.Acked, s.Keys = x.acked(), x.keys
	return s
}

func (x *refNode) reopen() { x.acks, x.heard, x.head = 0, false, "" }

func (x *refNode) toAhead(b string) []api.Packet { return []api.Packet{{To: x.role - 1, Bytes: b}} }

// request is P14 from top to bottom.
func (x *refNode) request(r api.Request) ([]api.Packet, api.Errno) {
	if x.role != 0 {
		return nil, api.ErrRole
	}
	if !refWhole(r) {
		return nil, api.ErrRequest
	}
	if n := x.log.last(r.Client); n > 0 && x.log[n-1].No == r.No {
		if n > x.acked() {
			return x.log.forwards(1, x.acked()+1), api.OK
		}
		return []api.Packet{x.log.answerPacket(n)}, api.OK
	}
	sent, err, then := x.log.request(r, x.last, x.room()+1)
	x.log = then
	return sent, err
}

// receive is P15 from top to bottom.
func (x *refNode) receive(b string) ([]api.Packet, api.Errno) {
	p, ok := refParse(b)
	switch {
	case !ok:
		return nil, api.ErrCode
	case p.kind == 'F' && x.role == 0, p.kind != 'F' && x.role == x.last:
		return nil, api.ErrRole
	case p.kind == 'F':
		return x.forwarded(p.n, p.r)
	case p.kind == 'Q':
		return x.log.forwards(x.role+1, p.n+1), api.OK
	case p.n <= x.acks || p.n > len(x.log):
		return nil, api.OK
	}
	x.acks = p.n
	if x.role == 0 {
		return nil, api.OK
	}
	return x.toAhead(ackBytes(p.n)), api.OK
}

func (x *refNode) forwarded(n int, r api.Request) ([]api.Packet, api.Errno) {
	x.heard = true
	if n <= len(x.log) {
		return x.toAhead(ackBytes(x.acked())), api.OK
	}
	if len(x.log) < n-1 {
		return x.toAhead(askBytes(len(x.log))), api.OK
	}
	if before := x.log.last(r.Client); before > 0 && r.No <= x.log[before-1].No {
		return nil, api.ErrRequest
	}
	if len(x.log) == x.room() {
		return nil, api.ErrFull
	}
	x.log = append(x.log[:len(x.log):len(x.log)], r)
	if x.role == x.last {
		return append(x.toAhead(ackBytes(n)), x.log.answerPacket(n)), api.OK
	}
	return []api.Packet{x.log.forward(x.role+1, n)}, api.OK
}

// tick is P16.
func (x *refNode) tick() []api.Packet {
	var sent []api.Packet
	if x.role > 0 && !x.heard {
		sent = x.toAhead(askBytes(len(x.log)))
	}
	if x.role < x.last {
		sent = append(sent, x.log.forwards(x.role+1, x.acked()+1)...)
	}
	return sent
}

// twin is a node, and beside it what it must be.
type twin struct {
	t   *testing.T
	d   api.Device
	x   *auditbook.Node
	ref refNode
}

func newTwin(t *testing.T, role, last, blocks int) *twin {
	t.Helper()
	d := formatted(t, blocks)
	return &twin{t: t, d: d, x: mustOpen(t, d, role, last), ref: refNode{role: role, last: last, blocks: blocks}}
}

// same holds what a call answered against what it must.
func (w *twin) same(what string, got []api.Packet, err error, want []api.Packet, wrong api.Errno) []api.Packet {
	w.t.Helper()
	if !slices.Equal(got, want) || plain.Told(err) != wrong || err != nil && got != nil {
		w.t.Fatalf("%s at node %d of 0 to %d: %+v, %v, want %+v, %v", what, w.ref.role, w.ref.last, got, err, want, wrong)
	}
	if got := w.x.See(); got != w.ref.state() {
		w.t.Fatalf("%s at node %d of 0 to %d: then See tells %+v, want %+v", what, w.ref.role, w.ref.last, got, w.ref.state())
	}
	return got
}

func (w *twin) request(r api.Request) []api.Packet {
	w.t.Helper()
	want, wrong := w.ref.request(r)
	got, err := w.x.Request(r)
	return w.same("P14: Request", got, err, want, wrong)
}

func (w *twin) receive(b string) []api.Packet {
	w.t.Helper()
	want, wrong := w.ref.receive(b)
	got, err := w.x.Receive(b)
	return w.same("P15: Receive", got, err, want, wrong)
}

func (w *twin) tick() []api.Packet {
	w.t.Helper()
	want := w.ref.tick()
	got, err := w.x.Tick()
	return w.same("P16: Tick", got, err, want, api.OK)
}

func (w *twin) reopen() {
	w.t.Helper()
	w.ref.reopen()
	w.x = mustOpen(w.t, w.d, w.ref.role, w.ref.last)
	w.same("P11: Open", nil, nil, nil, api.OK)
}

// anyPacket makes the bytes of one that the node may take, or just not: the numbers are about those that it has.
func (w *twin) anyPacket(rnd *rand.Rand, no int) string {
	n := max(0, len(w.ref.log)-6+rnd.Intn(9))
	if rnd.Intn(20) == 0 {
		n = []int{0, 1, 255, 256, 65536, 1<<24 + 1, api.MaxNumber, 1 << 31, 1<<32 - 1}[rnd.Intn(9)]
	}
	b := forwardBytes(n, anyRequest(rnd, no))
	switch rnd.Intn(5) {
	case 0:
		b = ackBytes(n)
	case 1:
		b = askBytes(n)
	case 2, 3:
		b = forwardBytes(len(w.ref.log)+1, anyRequest(rnd, no))
	}
	if rnd.Intn(15) == 0 {
		return turn(b, rnd.Intn(len(b)), rnd.Intn(8))
	}
	if rnd.Intn(40) == 0 {
		return b[:rnd.Intn(len(b))] + pattern(rnd.Intn(3))
	}
	return b
}
