package auditbook_test

import (
	"math"
	"math/rand"
	"slices"
	"strings"
	"sync"
	"testing"

	"auditbook/api"
	"auditbook/auditbook"
	"auditbook/plain"
)

func mustAudit(t *testing.T, key string, height int) *auditbook.Auditor {
	t.Helper()
	a, err := auditbook.NewAuditor(key, height)
	if err != nil || a == nil {
		t.Fatalf("P19: NewAuditor of height %d: %v", height, err)
	}
	return a
}

// anAuditor is one of the nodes here.
func anAuditor(t *testing.T) *auditbook.Auditor {
	t.Helper()
	return mustAudit(t, aKeys().public(aHeight), aHeight)
}

func wantTrusted(t *testing.T, what string, a *auditbook.Auditor, size int, root string) {
	t.Helper()
	if n, r := a.Trusted(); n != size || r != root {
		t.Errorf("%s: %d and %x are trusted, want %d and %x", what, n, r, size, root)
	}
}

func wantAdvanced(t *testing.T, what string, a *auditbook.Auditor, head string, size int, root string, proof []string) {
	t.Helper()
	wantNil(t, what, a.Advance(head, proof))
	wantTrusted(t, what, a, size, root)
}

func wantNotAdvanced(t *testing.T, what string, a *auditbook.Auditor, head string, proof []string, want error) {
	t.Helper()
	size, root := a.Trusted()
	wantErr(t, what, a.Advance(head, proof), want)
	wantTrusted(t, "P1: "+what, a, size, root)
}

// headOf is a head that says what it likes, signed with a key of aSeed.
func headOf(size int, root string) string {
	msg := refHead(size, root)
	return msg + aKeys().sign(aHeight, size&3, msg)
}

// headOver is one over leaves.
func headOver(leaves []string) string { return headOf(len(leaves), refRoot(leaves)) }

// trusting is an auditor that trusts a tree over leaves.
func trusting(t *testing.T, leaves []string) *auditbook.Auditor {
	t.Helper()
	a := anAuditor(t)
	wantAdvanced(t, "P19: the first head", a, headOver(leaves), len(leaves), refRoot(leaves), nil)
	return a
}

// someEvents are n whole ones, no two of them the same.
func someEvents(n int) []string { return aLog(n).events() }

func TestNoAuditor(t *testing.T) {
	wantNone := func(key string, height int) {
		t.Helper()
		a, err := auditbook.NewAuditor(key, height)
		if wantErr(t, "P19: NewAuditor", err, api.ErrSeed); a != nil {
			t.Error("P1: an auditor with an error")
		}
	}
	for _, height := range wrongHeights() {
		wantNone(aKeys().public(0), height)
		wantNone("", height)
	}
	for _, key := range wrongSeeds() {
		for height := range api.MaxHeight + 1 {
			wantNone(key, height)
		}
	}
}

func TestNewAuditorTrustsNothing(t *testing.T) {
	for height := range api.MaxHeight + 1 {
		// Any 32 bytes can be a public key.
		for _, key := range []string{aKeys().public(height), noughts, refSum("key")} {
			a := mustAudit(t, key, height)
			wantTrusted(t, "P19: a new auditor", a, 0, refSum())
			for _, i := range []int{math.MinInt, -1, 0, 1, math.MaxInt} {
				wantErr(t, "P19: Confirm of nothing", a.Confirm(someEvents(1)[0], i, nil), api.ErrIndex)
				wantErr(t, "P19: Confirm of nothing", a.Confirm("", i, nil), api.ErrCode)
			}
		}
	}
}

func TestAuditorsOfEveryHeight(t *testing.T) {
	msg := refHead(3, refRoot(someEvents(3)))
	for height := range api.MaxHeight + 1 {
		a := mustAudit(t, aKeys().public(height), height)
		for other := range api.MaxHeight + 1 {
			if other != height {
				wantNotAdvanced(t, "P19: a head of another height", a, msg+aKeys().sign(other, 0, msg), nil, api.ErrCode)
			}
		}
		for k := range 1 << height {
			wantAdvanced(t, "P19: a head of any key", a, msg+aKeys().sign(height, k, msg), 3, msg[5:], nil)
		}
	}
}

func TestAdvanceFromEverySizeToEverySize(t *testing.T) {
	leaves := someEvents(17)
	for n := range len(leaves) + 1 {
		for m := range n + 1 {
			a := trusting(t, leaves[:m])
			wantAdvanced(t, "P19: Advance", a, headOver(leaves[:n]), n, refRoot(leaves[:n]), refConsistency(leaves[:n], m, true))
			wantAdvanced(t, "P19: Advance to the same", a, headOver(leaves[:n]), n, refRoot(leaves[:n]), nil)
		}
	}
}

// Nothing is known of the empty book, so that any book is its growth.
func TestAdvanceFromNothing(t *testing.T) {
	for _, size := range []int{1, 2, 255, 256, 65536, 1 << 24, 0x01020304, api.MaxNumber} {
		for _, root := range []string{noughts, refSum(), refSum("any root")} {
			a := anAuditor(t)
			wantNotAdvanced(t, "P19: from nothing, with a proof", a, headOf(size, root), []string{root}, api.ErrProof)
			wantAdvanced(t, "P19: from nothing", a, headOf(size, root), size, root, nil)
		}
	}
	a := anAuditor(t)
	wantNotAdvanced(t, "P19: another nothing", a, headOf(0, noughts), nil, api.ErrFork)
	wantNotAdvanced(t, "P19: nothing, with a proof", a, headOf(0, refSum()), []string{refSum()}, api.ErrProof)
	wantAdvanced(t, "P19: nothing", a, headOf(0, refSum()), 0, refSum(), []string{})
}

func TestBytesThatAreNoHead(t *testing.T) {
	leaves := someEvents(5)
	a := trusting(t, leaves[:3])
	head, proof := headOver(leaves), refConsistency(leaves, 3, true)
	for n := range 40 {
		wantNotAdvanced(t, "P19: a short head", a, head[:n], proof, api.ErrCode)
		wantNotAdvanced(t, "P19: a head less some bytes", a, head[:len(head)-n-1], proof, api.ErrCode)
		wantNotAdvanced(t, "P19: a head and some bytes", a, head+pattern(n+1), proof, api.ErrCode)
	}
	wantNotAdvanced(t, "P19: a head less its first byte", a, head[1:], proof, api.ErrCode)
	wantNotAdvanced(t, "P19: two heads", a, head+head, proof, api.ErrCode)
	for mark := range 256 {
		if mark == 'H' {
			continue
		}
		msg := string([]byte{byte(mark)}) + head[1:37]
		wantNotAdvanced(t, "P19: another mark", a, msg+aKeys().sign(aHeight, 0, msg), proof, api.ErrCode)
	}
	for _, size := range []int{1 << 31, 1<<31 + 5, 1<<32 - 1} {
		wantNotAdvanced(t, "P19: too great a size", a, headOf(size, refRoot(leaves)), proof, api.ErrCode)
		wantNotAdvanced(t, "P19: too great a size, not signed", a, refHead(size, refRoot(leaves))+head[37:], proof, api.ErrCode)
	}
	wantAdvanced(t, "P19: the head", a, head, 5, refRoot(leaves), proof)
}

func TestHeadsThatAreNotSigned(t *testing.T) {
	leaves := someEvents(5)
	a := trusting(t, leaves[:3])
	head, proof := headOver(leaves), refConsistency(leaves, 3, true)
	for at := range 37 {
		for bit := range 8 {
			want := api.ErrSignature
			if at == 0 || at == 1 && bit == 7 {
				want = api.ErrCode
			}
			wantNotAdvanced(t, "P19: another bit in a head", a, turn(head, at, bit), proof, want)
		}
	}
	for at := 37; at < len(head); at += 31 {
		wantNotAdvanced(t, "P19: another bit in a signature", a, turn(head, at, at%8), proof, api.ErrSignature)
	}
	msg := head[:37]
	others := newRefKeys(refSum("other seed"))
	for _, sig := range []string{
		others.sign(aHeight, 1, msg), aKeys().sign(aHeight, 1, msg+"x"), aKeys().sign(aHeight, 1, head[1:37]), headOver(leaves[:3])[37:], strings.Repeat("\x00", 2209),
	} {
		wantNotAdvanced(t, "P19: not signed", a, msg+sig, proof, api.ErrSignature)
	}
	stranger := mustAudit(t, others.public(aHeight), aHeight)
	wantNotAdvanced(t, "P19: another key's head", stranger, head, nil, api.ErrSignature)
	for _, wrong := range []string{headOver(leaves[:2]), headOf(3, noughts)} {
		wantNotAdvanced(t, "P19: not signed, and smaller or a fork", a, turn(wrong, 50, 1), proof, api.ErrSignature)
	}
	wantAdvanced(t, "P19: the head", a, head, 5, refRoot(leaves), proof)
}

func TestHeadsOfAnotherBook(t *testing.T) {
	leaves, others := someEvents(9), ownLeaves(9)
	for m := 1; m <= 8; m++ {
		a := trusting(t, leaves[:m])
		for n := range m {
			wantNotAdvanced(t, "P19: a smaller size", a, headOver(leaves[:n]), nil, api.ErrIndex)
			wantNotAdvanced(t, "P19: a smaller size, another book", a, headOver(others[:n]), []string{"no hash"}, api.ErrIndex)
		}
		same := refConsistency(others[:m], m, true)
		for _, proof := range [][]string{nil, same, {refSum()}, {"no hash"}} {
			wantNotAdvanced(t, "P19: another book", a, headOver(others[:m]), proof, api.ErrFork)
			wantNotAdvanced(t, "P19: another book", a, headOf(m, noughts), proof, api.ErrFork)
		}
		for _, proof := range [][]string{{refSum()}, {"no hash"}, {""}, {refRoot(leaves[:m])}} {
			wantNotAdvanced(t, "P19: the same book, with a proof", a, headOver(leaves[:m]), proof, api.ErrProof)
		}
		for _, proof := range [][]string{nil, refConsistency(leaves, m, true), refConsistency(others, m, true)} {
			wantNotAdvanced(t, "P19: another book that is greater", a, headOver(others), proof, api.ErrProof)
		}
		wantAdvanced(t, "P19: the same book", a, headOver(leaves), 9, refRoot(leaves), refConsistency(leaves, m, true))
	}
}

func TestAdvanceWithWrongProofs(t *testing.T) {
	leaves := someEvents(11)
	for m := 1; m < 11; m++ {
		a := trusting(t, leaves[:m])
		proof := refConsistency(leaves, m, true)
		for _, wrong := range wrongTexts(proof) {
			wantNotAdvanced(t, "P19: a wrong proof", a, headOver(leaves), wrong, api.ErrProof)
		}
		wantNotAdvanced(t, "P19: no proof", a, headOver(leaves), nil, api.ErrProof)
		wantNotAdvanced(t, "P19: a proof for a size more", a, headOver(leaves[:10]), proof, api.ErrProof)
	}
}

func TestConfirmAtEveryPlace(t *testing.T) {
	leaves := someEvents(13)
	for n := 1; n <= len(leaves); n++ {
		a := trusting(t, leaves[:n])
		for i := range n {
			proof := refInclusion(leaves[:n], i)
			wantNil(t, "P19: Confirm", a.Confirm(leaves[i], i, proof))
			for _, at := range []int{math.MinInt, i - n - 1<<32, -1, n, n + 1, i + 1<<32, math.MaxInt} {
				wantErr(t, "P19: Confirm at no place", a.Confirm(leaves[i], at, proof), api.ErrIndex)
			}
			for _, wrong := range wrongTexts(proof) {
				wantErr(t, "P19: Confirm by a wrong proof", a.Confirm(leaves[i], i, wrong), api.ErrProof)
			}
			if n > 1 {
				wantErr(t, "P19: Confirm of another event", a.Confirm(leaves[(i+1)%n], i, proof), api.ErrProof)
				wantErr(t, "P19: Confirm at another place", a.Confirm(leaves[i], (i+1)%n, proof), api.ErrProof)
			}
		}
		wantTrusted(t, "P19: Confirm changes nothing", a, n, refRoot(leaves[:n]))
	}
}

func TestConfirmOfNoEvents(t *testing.T) {
	event := someEvents(1)[0]
	wrong := []string{"", "E", event[:41], event + "x", event[1:], "e" + event[1:], pattern(42), strings.Repeat("E", 42), refSum("x")}
	for _, f := range numbers() {
		for _, n := range []int{f.low - 1, f.high + 1} {
			b := []byte(event)
			f.put(b, n)
			wrong = append(wrong, string(b))
		}
	}
	for _, b := range wrong {
		// The tree has it, but as an event it is none.
		a := trusting(t, []string{b, event})
		wantErr(t, "P19: Confirm of no event", a.Confirm(b, 0, []string{refLeaf(event)}), api.ErrCode)
		wantErr(t, "P19: Confirm of no event, at no place", a.Confirm(b, 2, nil), api.ErrCode)
		wantNil(t, "P19: Confirm of the event beside it", a.Confirm(event, 1, []string{refLeaf(b)}))
	}
}

func TestAuditorsOfGreatBooks(t *testing.T) {
	event := someEvents(1)[0]
	same := sameLeaves{event, map[int]string{}}
	for _, n := range greatSizes() {
		for _, m := range []int{1, 2, 3, 1 << 20, n / 2, n - 1, n} {
			m = min(m, n)
			a := anAuditor(t)
			wantAdvanced(t, "P19: a great book", a, headOf(m, same.root(m)), m, same.root(m), nil)
			wantAdvanced(t, "P19: a great book", a, headOf(n, same.root(n)), n, same.root(n), same.consistency(m, n, true))
		}
		a := anAuditor(t)
		wantAdvanced(t, "P19: a great book", a, headOf(n, same.root(n)), n, same.root(n), nil)
		for _, i := range []int{0, 1, n / 2, n - 2, n - 1} {
			wantNil(t, "P19: Confirm in a great book", a.Confirm(event, i, same.inclusion(i, n)))
		}
		wantErr(t, "P19: Confirm behind a great book", a.Confirm(event, n, same.inclusion(n-1, n)), api.ErrIndex)
	}
}

// An auditor follows a node through all that happens to it.
func TestAuditorFollowsANode(t *testing.T) {
	d := formatted(t, 60)
	a := mustAudit(t, mustKey(t, aSeed(), 5), 5)
	var log refLog
	for size := range 20 {
		x := openAs(t, d, aSeed(), 5)
		n, _ := a.Trusted()
		proof, err := x.Grown(n, size)
		wantNil(t, "P18: Grown", err)
		wantAdvanced(t, "P19: Advance", a, mustHead(t, x), size, refRoot(log.events()), proof)
		for i := range size {
			b, proof, err := x.Event(i, size)
			wantNil(t, "P18: Event", err)
			wantNil(t, "P19: Confirm", a.Confirm(b, i, proof))
		}
		log = aLog(size + 1)
		wantPackets(t, "P14", x, log[size], log.answerPacket(size+1))
	}
}

func TestTextsOfAuditorsAreNotKept(t *testing.T) {
	leaves := someEvents(7)
	key, keyBytes := lend(aKeys().public(aHeight))
	a := mustAudit(t, key, aHeight)
	scrub(keyBytes)
	for _, n := range []int{3, 7} {
		size, _ := a.Trusted()
		head, headBytes := lend(headOver(leaves[:n]))
		proof := append(refConsistency(leaves[:n], size, true), "behind", "it")
		kept := slices.Clone(proof)
		wantNil(t, "P19: Advance", a.Advance(head, proof[:len(proof)-2]))
		if string(headBytes) != headOver(leaves[:n]) || !slices.Equal(proof, kept) {
			t.Error("P2: what was handed in was written into")
		}
		scrub(headBytes)
		scribble(proof)
		wantTrusted(t, "P2: a head is kept", a, n, refRoot(leaves[:n]))
	}
	_, root := a.Trusted()
	scrub(bytesOf(root))
	wantTrusted(t, "P2: a root that was handed out is kept", a, 7, refRoot(leaves))
	event, eventBytes := lend(leaves[4])
	proof := append(refInclusion(leaves, 4), "behind")
	kept := slices.Clone(proof)
	wantNil(t, "P19: Confirm", a.Confirm(event, 4, proof[:len(proof)-1]))
	if string(eventBytes) != leaves[4] || !slices.Equal(proof, kept) {
		t.Error("P2: what was handed in was written into")
	}
	scrub(eventBytes)
	wantErr(t, "P2: Confirm of other bytes at the same place", a.Confirm(event, 4, kept[:len(kept)-1]), api.ErrCode)
	wantNil(t, "P2: Confirm behind that", a.Confirm(leaves[4], 4, kept[:len(kept)-1]))
}

func TestAuditorsAreApart(t *testing.T) {
	leaves := someEvents(6)
	var all sync.WaitGroup
	for n := range leaves {
		all.Go(func() {
			a, err := auditbook.NewAuditor(aKeys().public(aHeight), aHeight)
			if err != nil {
				t.Errorf("P19: %v", err)
				return
			}
			wantAdvanced(t, "P2: at the same time", a, headOver(leaves[:n]), n, refRoot(leaves[:n]), nil)
			wantAdvanced(t, "P2: at the same time", a, headOver(leaves), 6, refRoot(leaves), refConsistency(leaves, n, true))
			wantNil(t, "P2: at the same time", a.Confirm(leaves[n], n, refInclusion(leaves, n)))
		})
	}
	all.Wait()
}

// anyHead makes a head that an auditor may take, or just not.
func anyHead(rnd *rand.Rand, leaves, others []string) string {
	n := rnd.Intn(len(leaves) + 1)
	head := headOver(leaves[:n])
	switch rnd.Intn(12) {
	case 0:
		head = headOver(others[:n])
	case 1:
		head = headOf([]int{0, 1, n, n + 1, api.MaxNumber, 1 << 31}[rnd.Intn(6)], refRoot(leaves[:n]))
	case 2:
		head = turn(head, rnd.Intn(len(head)), rnd.Intn(8))
	case 3:
		head = turn(head, rnd.Intn(37), rnd.Intn(8))
	case 4:
		head = head[:rnd.Intn(len(head))]
	}
	return head
}

func TestManyHeadsAsTheReference(t *testing.T) {
	for trial := range 40 {
		rnd := rand.New(rand.NewSource(int64(trial)))
		leaves, others := someEvents(12), ownLeaves(12)
		a, ref := anAuditor(t), newRefAuditor(aKeys().public(aHeight), aHeight)
		for range 60 {
			head := anyHead(rnd, leaves, others)
			var proof []string
			if n := rnd.Intn(13); rnd.Intn(3) > 0 && n >= ref.size && ref.size <= 12 {
				proof, head = refConsistency(leaves[:n], ref.size, true), headOver(leaves[:n])
			}
			if rnd.Intn(10) == 0 {
				proof = append(proof, refSum("x"))
			}
			if got, want := a.Advance(head, proof), ref.advance(head, proof); plain.Told(got) != want {
				t.Fatalf("P19: Advance to %.37x..: %v, want %v", head, got, want)
			}
			wantTrusted(t, "P19: Advance", a, ref.size, ref.root)
			i, n := rnd.Intn(14)-1, 1+rnd.Intn(12)
			event := leaves[rnd.Intn(12)]
			if n = min(max(n, ref.size), 12); rnd.Intn(3) > 0 && i >= 0 && i < 12 {
				event = leaves[i]
			}
			path := refInclusion(leaves[:n], max(0, min(i, n-1)))
			if got, want := a.Confirm(event, i, path), ref.confirm(event, i, path); plain.Told(got) != want {
				t.Fatalf("P19: Confirm at %d of %d: %v, want %v", i, ref.size, got, want)
			}
		}
	}
}

// FuzzAdvance: whatever is handed in, the auditor does what the second make of it does.
func FuzzAdvance(f *testing.F) {
	leaves := someEvents(5)
	key := aKeys().public(aHeight)
	f.Add(headOver(leaves), strings.Join(refConsistency(leaves, 3, true), ""))
	f.Add(headOver(leaves[:3]), "")
	f.Add(headOver(leaves[:2]), "x")
	f.Add(headOf(3, noughts), "")
	f.Add(headOf(1<<31, noughts), noughts)
	f.Add("", "")
	f.Fuzz(func(t *testing.T, head, hashes string) {
		for _, m := range []int{0, 3} {
			a, ref := trusting(t, leaves[:m]), newRefAuditor(key, aHeight)
			ref.advance(headOver(leaves[:m]), nil)
			if got, want := a.Advance(head, cut(hashes)), ref.advance(head, cut(hashes)); plain.Told(got) != want {
				t.Errorf("P19: Advance: %v, want %v", got, want)
			}
			wantTrusted(t, "P19: Advance", a, ref.size, ref.root)
		}
	})
}

// FuzzConfirm: likewise.
func FuzzConfirm(f *testing.F) {
	leaves := someEvents(5)
	key := aKeys().public(aHeight)
	for i, e := range leaves {
		f.Add(e, i, strings.Join(refInclusion(leaves, i), ""))
	}
	f.Add(leaves[0], -1, "")
	f.Add("", 5, "x")
	f.Fuzz(func(t *testing.T, event string, i int, hashes string) {
		a, ref := trusting(t, leaves), newRefAuditor(key, aHeight)
		ref.advance(headOver(leaves), nil)
		if got, want := a.Confirm(event, i, cut(hashes)), ref.confirm(event, i, cut(hashes)); plain.Told(got) != want {
			t.Errorf("P19: Confirm: %v, want %v", got, want)
		}
		wantTrusted(t, "P19: Confirm", a, 5, refRoot(leaves))
	})
}
