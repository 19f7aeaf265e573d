package auditbook_test

import (
	"math/rand"
	"slices"
	"testing"

	"auditbook/api"
	"auditbook/auditbook"
	"auditbook/plain"
)

func TestReceiveCutOff(t *testing.T) {
	for _, at := range [][2]int{{1, 2}, {1, 1}, {2, 2}} {
		for _, entries := range []int{0, 1, 5, 7} {
			old, log := filled(t, 9, entries)
			r := create(9, 1, 50, "new")
			grown := append(slices.Clone(log), r)
			for calls := range calls(t) {
				d := old.After(nil)
				x := mustOpen(t, d, at[0], at[1])
				d.Off(calls)
				_, err := x.Receive(forwardBytes(entries+1, r))
				for _, keep := range keeps(d.Pending()) {
					got := found(t, d.After(keep), log, grown)
					if got < 0 || err == nil && got != 1 {
						t.Fatalf("P15: Receive cut off behind %d calls: %v, then log %d", calls, err, got)
					}
				}
				if err == nil {
					break
				}
				wantErr(t, "P1: Receive cut off", err, api.ErrIO)
			}
		}
	}
}

func TestReceiveThatFails(t *testing.T) {
	for _, at := range [][2]int{{1, 2}, {1, 1}, {2, 2}} {
		for calls := range calls(t) {
			d, log := filled(t, 9, 5)
			x := mustOpen(t, d, at[0], at[1])
			r := create(9, 1, 50, "new")
			d.Bad(calls, 1)
			sent, err := x.Receive(forwardBytes(6, r))
			if d.Told() == 0 {
				wantNil(t, "P15: Receive of a sound device", err)
				break
			}
			if err != nil {
				wantErr(t, "P1: Receive that fails", err, api.ErrIO)
				wantFailed(t, x, r)
			}
			if err != nil && sent != nil {
				t.Error("P1: packets with an error")
			}
			got := found(t, d, log, append(slices.Clone(log), r))
			if got < 0 || err == nil && got != 1 {
				t.Fatalf("P15: Receive that fails behind %d calls: %v, then log %d", calls, err, got)
			}
		}
	}
}

// Where nothing is written, an error of the device is not met.
func TestReceiveThatWritesNothing(t *testing.T) {
	for _, at := range chainPlaces() {
		role, last := at[0], at[1]
		d, log := filled(t, 9, 8)
		w := &twin{t: t, d: d, x: mustOpen(t, d, role, last), ref: refNode{log: log, role: role, last: last, blocks: 9}}
		d.Off(0)
		for _, b := range []string{
			"", ackBytes(0), ackBytes(3), ackBytes(9), askBytes(0), askBytes(8),
			forwardBytes(1, log[0]), forwardBytes(8, log[7]), forwardBytes(12, log[7]),
			forwardBytes(9, log[7]), forwardBytes(9, create(9, 1, 1, "")), ackBytes(8),
		} {
			w.receive(b)
			w.tick()
		}
		if d.Told() != 0 {
			t.Errorf("P15: node %d of 0 to %d asks its device where it need not", role, last)
		}
	}
}

func TestReceiveOnADeviceThatPanics(t *testing.T) {
	broken := &odd{Disk: formatted(t, 8)}
	x := mustOpen(t, broken, 1, 1)
	broken.write = func([]byte) { panic("a device's own") }
	r := create(1, 1, 1, "")
	if sent, err := x.Receive(forwardBytes(1, r)); plain.Told(err) != api.ErrIO || sent != nil {
		t.Errorf("P1: Receive on a device that panics: %+v, %v", sent, err)
	}
	wantFailed(t, x, r)
}

// storm is a chain on devices that shake, with a post that loses packets.
type storm struct {
	*post
	t       *testing.T
	devices []*shaky
	nodes   []*auditbook.Node
	sure    []int         // entries that each node had at the least
	asked   []api.Request // by client: its last request
	auditor *auditbook.Auditor
	signed  []string // by key: what it signed
}

func newStorm(t *testing.T, rnd *rand.Rand, last int) *storm {
	t.Helper()
	s := &storm{post: newPost(rnd), t: t, asked: make([]api.Request, api.MaxClient+1), signed: make([]string, 1<<aHeight)}
	s.auditor = mustAudit(t, aKeys().public(aHeight), aHeight)
	for role := range last + 1 {
		d := newShaky(rnd, 60+rnd.Intn(40))
		if err := auditbook.Format(d); err != nil {
			t.Fatalf("P10: Format: %v", err)
		}
		s.devices = append(s.devices, d)
		s.nodes = append(s.nodes, mustOpen(t, d, role, last))
		s.sure = append(s.sure, 0)
	}
	return s
}

// open opens a node again, once more on a sound device if that fails.
func (s *storm) open(role int) {
	for range 2 {
		x, err := auditbook.Open(s.devices[role], role, len(s.nodes)-1, aSeed(), aHeight)
		if err == nil {
			s.nodes[role] = x
			s.grown(role)
			return
		}
		if plain.Told(err) != api.ErrIO {
			break
		}
		s.devices[role].fails = 0
	}
	s.t.Fatalf("P11: node %d can't be opened again", role)
}

// grown: no entry is lost that was there.
func (s *storm) grown(role int) {
	has := s.nodes[role].See().Log
	if has < s.sure[role] {
		s.t.Fatalf("P15: node %d had %d entries, and has %d", role, s.sure[role], has)
	}
	s.sure[role] = has
}

// heard sends what came out of a node, or opens it again if it has failed.
func (s *storm) heard(role int, sent []api.Packet, err error) {
	switch plain.Told(err) {
	case api.OK:
		s.send(sent)
		s.grown(role)
	case api.ErrIO:
		if _, err := s.nodes[role].Tick(); plain.Told(err) != api.ErrFailed {
			s.t.Fatalf("P1: Tick behind ErrIO: %v", err)
		}
		if s.rnd.Intn(2) == 0 {
			s.devices[role].cut()
		}
		s.open(role)
	default:
		s.t.Fatalf("P15: node %d: %v", role, err)
	}
}

// request asks for something new, or for a client's last one again.
func (s *storm) request(no int) {
	client := 1 + s.rnd.Intn(api.MaxClient)
	if s.rnd.Intn(2) == 0 || s.asked[client].No == 0 {
		r := anyRequest(s.rnd, no)
		r.Client, r.No = client, s.asked[client].No+1
		s.asked[client] = r
	}
	sent, err := s.nodes[0].Request(s.asked[client])
	s.heard(0, sent, err)
}

func (s *storm) receive(p api.Packet) {
	sent, err := s.nodes[p.To].Receive(p.Bytes)
	s.heard(p.To, sent, err)
}

func (s *storm) tick(role int) {
	sent, err := s.nodes[role].Tick()
	s.heard(role, sent, err)
}

func (s *storm) tickAll() {
	for role := range s.nodes {
		s.tick(role)
	}
}

// head lets the last node sign, and the auditor follow.
func (s *storm) head() {
	last := len(s.nodes) - 1
	head, err := s.nodes[last].Head()
	if plain.Told(err) == api.ErrKeys {
		return
	}
	if s.heard(last, nil, err); err != nil {
		return
	}
	k, err := auditbook.Check(aKeys().public(aHeight), aHeight, head[:37], head[37:])
	if err != nil || s.signed[k] != "" && s.signed[k] != head {
		s.t.Fatalf("P17: key %d signs %x, %v, behind %.37x..", k, head[:37], err, s.signed[k])
	}
	s.signed[k] = head
	m, _ := s.auditor.Trusted()
	proof, err := s.nodes[last].Grown(m, s.sure[last])
	wantNil(s.t, "P18: Grown", err)
	wantNil(s.t, "P19: Advance", s.auditor.Advance(head, proof))
}

func (s *storm) next(no int) {
	role := s.rnd.Intn(len(s.nodes))
	s.devices[role].fails = []int{0, 0, 3, 30}[s.rnd.Intn(4)]
	switch what := s.rnd.Intn(20); {
	case what < 2 && s.nodes[0].See().Log < 50:
		s.request(no)
	case what < 6:
		s.tick(role)
	case what == 6:
		s.devices[role].cut()
		s.open(role)
	case what == 7 && s.rnd.Intn(6) == 0:
		s.head()
	default:
		s.step(s.receive)
	}
}

// calm lets the devices be sound, and the chain come to rest.
func (s *storm) calm() {
	for _, d := range s.devices {
		d.fails = 0
	}
	s.settle(s.tickAll, s.receive)
}

// log is what node 0 hands on to whoever asks for it.
func (s *storm) log() refLog {
	var log refLog
	for {
		sent, err := s.nodes[0].Receive(askBytes(len(log)))
		if err != nil {
			s.t.Fatalf("P15: an Ask: %v", err)
		}
		if len(sent) == 0 {
			return log
		}
		for _, p := range sent {
			f, ok := refParse(p.Bytes)
			if !ok || f.n != len(log)+1 {
				s.t.Fatalf("P15: a Forward: %+v", p)
			}
			log = append(log, f.r)
		}
	}
}

// keys is how many a node has used: more than have signed only if the last node was cut off.
func (s *storm) keys(role int) int {
	used := s.nodes[role].See().Keys
	if role < len(s.nodes)-1 && used != 0 {
		s.t.Fatalf("P17: node %d has used %d keys", role, used)
	}
	for k, head := range s.signed {
		if role == len(s.nodes)-1 && head != "" && k >= used {
			s.t.Fatalf("P17: key %d has signed, and %d are used", k, used)
		}
	}
	return used
}

// wantConfirmed: all that the auditor trusts is what the log says.
func (s *storm) wantConfirmed(log refLog) {
	n, root := s.auditor.Trusted()
	events := log.events()[:n]
	if root != refRoot(events) {
		s.t.Fatalf("P19: of %d events %x is trusted", n, root)
	}
	for i, e := range events {
		_, proof, err := s.nodes[len(s.nodes)-1].Event(i, n)
		wantNil(s.t, "P18: Event", err)
		wantNil(s.t, "P19: Confirm", s.auditor.Confirm(e, i, proof))
	}
}

func TestChainsInAStorm(t *testing.T) {
	for last := 1; last <= 2; last++ {
		for trial := range 60 {
			s := newStorm(t, rand.New(rand.NewSource(int64(trial*2+last))), last)
			for step := range 800 {
				s.next(step / 5)
			}
			s.calm()
			log := s.log()
			for role, x := range s.nodes {
				want := log.state(true)
				want.Keys = s.keys(role)
				wantState(t, "P16: at rest", x, want)
				wantBook(t, "P16: at rest", s.devices[role], log, want.Keys)
			}
			s.wantAnswers(t, log)
			s.wantConfirmed(log)
			if t.Failed() {
				t.FailNow()
			}
		}
	}
}
