package auditbook_test

import (
	"encoding/binary"
	"math/rand"
	"slices"
	"sync"

	"auditbook/api"
	"auditbook/plain"
)

// aHeight is that of the nodes here, where nothing is said.
const aHeight = 2

// aKeys are those of aSeed.
var aKeys = sync.OnceValue(func() refKeys { return newRefKeys(aSeed()) })

// events are those of all entries, as bytes.
func (l refLog) events() []string {
	told, _ := l.answers()
	all := make([]string, len(l))
	for i, r := range l {
		code, version, text := told[i].Code, told[i].Version, told[i].Text
		all[i] = "E" + string([]byte{byte(r.Client)}) + numberBytes(r.No) +
			string([]byte{byte(r.Op), byte(r.Patient), byte(version), byte(code)}) +
			refSum(string([]byte{byte(len(r.Text))}), r.Text, text)
	}
	return all
}

// refHead is what is signed: so many events, and a root.
func refHead(size int, root string) string { return "H" + numberBytes(size) + root }

// message is what a head over all entries says.
func (l refLog) message() string { return refHead(len(l), refRoot(l.events())) }

// signedHead is what a head over all entries is, signed with key k of aSeed.
func (l refLog) signedHead(height, k int) string {
	return l.message() + aKeys().sign(height, k, l.message())
}

// sign is P17 from top to bottom.
func (x *refNode) sign(height int) (string, api.Errno) {
	switch {
	case x.role != x.last:
		return "", api.ErrRole
	case x.head != "" && x.headOver == len(x.log):
		return x.head, api.OK
	case x.keys >= 1<<height:
		return "", api.ErrKeys
	case len(x.log) == x.room():
		return "", api.ErrFull
	}
	x.head, x.headOver = x.log.signedHead(height, x.keys), len(x.log)
	x.keys++
	return x.head, api.OK
}

// event is P18 from top to bottom.
func (x *refNode) event(i, n int) (string, []string, api.Errno) {
	switch {
	case x.role != x.last:
		return "", nil, api.ErrRole
	case i < 0 || i >= n || n > len(x.log):
		return "", nil, api.ErrIndex
	}
	first := x.log.events()[:n]
	return first[i], refInclusion(first, i), api.OK
}

// grown is P18 from top to bottom.
func (x *refNode) grown(m, n int) ([]string, api.Errno) {
	switch {
	case x.role != x.last:
		return nil, api.ErrRole
	case m < 0 || m > n || n > len(x.log):
		return nil, api.ErrIndex
	}
	return refConsistency(x.log.events()[:n], m, true), api.OK
}

func (w *twin) head() string {
	w.t.Helper()
	want, wrong := w.ref.sign(aHeight)
	got, err := w.x.Head()
	if got != want || plain.Told(err) != wrong {
		w.t.Fatalf("P17: Head at node %d of 0 to %d: %.37x.., %v, want %.37x.., %v", w.ref.role, w.ref.last, got, err, want, wrong)
	}
	w.same("P17: Head", nil, nil, nil, api.OK)
	return got
}

func (w *twin) event(i, n int) {
	w.t.Helper()
	want, path, wrong := w.ref.event(i, n)
	got, proof, err := w.x.Event(i, n)
	if got != want || !slices.Equal(proof, path) || plain.Told(err) != wrong {
		w.t.Fatalf("P18: Event(%d, %d) at node %d of 0 to %d: %x, %x, %v, want %x, %x, %v", i, n, w.ref.role, w.ref.last, got, proof, err, want, path, wrong)
	}
}

func (w *twin) grown(m, n int) {
	w.t.Helper()
	want, wrong := w.ref.grown(m, n)
	proof, err := w.x.Grown(m, n)
	if !slices.Equal(proof, want) || plain.Told(err) != wrong {
		w.t.Fatalf("P18: Grown(%d, %d) at node %d of 0 to %d: %x, %v, want %x, %v", m, n, w.ref.role, w.ref.last, proof, err, want, wrong)
	}
}

// audit asks for something of P17 or P18, with numbers about those that there are.
func (w *twin) audit(rnd *rand.Rand) {
	w.t.Helper()
	if rnd.Intn(3) == 0 {
		w.head()
	}
	n := rnd.Intn(len(w.ref.log)+3) - 1
	k := rnd.Intn(max(1, n)+2) - 1
	w.event(k, n)
	w.grown(k, n)
}

// refAuditor is a second make of P19.
type refAuditor struct {
	key    string
	height int
	size   int
	root   string
}

func newRefAuditor(key string, height int) *refAuditor {
	return &refAuditor{key: key, height: height, root: refSum()}
}

// advance is P19 from top to bottom.
func (a *refAuditor) advance(head string, proof []string) api.Errno {
	if len(head) != 37+1+32*(67+a.height) || head[0] != 'H' || head[1] >= 0x80 {
		return api.ErrCode
	}
	if !refSigned(a.key, a.height, head[:37], head[37:]) {
		return api.ErrSignature
	}
	size, root := int(binary.BigEndian.Uint32([]byte(head[1:5]))), head[5:37]
	switch {
	case size < a.size:
		return api.ErrIndex
	case size == a.size && root != a.root:
		return api.ErrFork
	case !refGrew(a.size, size, a.root, root, proof):
		return api.ErrProof
	}
	a.size, a.root = size, root
	return api.OK
}

// confirm is P19 from top to bottom.
func (a *refAuditor) confirm(event string, i int, proof []string) api.Errno {
	switch {
	case !refIsEvent(event):
		return api.ErrCode
	case i < 0 || i >= a.size:
		return api.ErrIndex
	case !refInclusionHolds(event, i, a.size, a.root, proof):
		return api.ErrProof
	}
	return api.OK
}

// refIsEvent tells if bytes are those of a whole event.
func refIsEvent(b string) bool {
	if len(b) != 42 || b[0] != 'E' {
		return false
	}
	for _, f := range numbers() {
		n := 0
		for _, digit := range []byte(b[f.at : f.at+f.size]) {
			n = n<<8 | int(digit)
		}
		if n < f.low || n > f.high {
			return false
		}
	}
	return true
}
