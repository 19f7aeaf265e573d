package auditbook_test

import (
	"encoding/hex"
	"math"
	"slices"
	"strings"
	"testing"

	"auditbook/api"
	"auditbook/auditbook"
)

// lastTwin is the last node of a chain, with a log, and with keys that are used among its entries.
func lastTwin(t *testing.T, last, entries, keys int) *twin {
	t.Helper()
	d, log := withKeys(t, entries+keys+8, entries, keys)
	ref := refNode{log: log, role: last, last: last, blocks: entries + keys + 8, keys: keys}
	return &twin{t: t, d: d, x: mustOpen(t, d, last, last), ref: ref}
}

func TestEventAtEveryPlaceOfEverySize(t *testing.T) {
	for last, entries := range []int{19, 8, 9} {
		w := lastTwin(t, last, entries, 5)
		for n := -1; n <= entries+2; n++ {
			for k := -1; k <= entries+2; k++ {
				w.event(k, n)
				w.grown(k, n)
			}
		}
	}
}

func TestEventsOfAFullBook(t *testing.T) {
	d := formatted(t, 400)
	log := fill(t, mustOpen(t, d, 0, 0), 399)
	events := log.events()
	x := mustOpen(t, d, 0, 0)
	for _, i := range []int{0, 1, 255, 256, 257, 398} {
		b, proof, err := x.Event(i, 399)
		if err != nil || b != events[i] || !slices.Equal(proof, refInclusion(events, i)) {
			t.Errorf("P18: Event(%d, 399): %x, %v", i, b, err)
		}
		grown, err := x.Grown(i, 399)
		if err != nil || !slices.Equal(grown, refConsistency(events, i, true)) {
			t.Errorf("P18: Grown(%d, 399): %v", i, err)
		}
	}
	_, _, err := x.Event(0, 400)
	wantErr(t, "P18: one more than there are", err, api.ErrIndex)
}

func TestKnownEvents(t *testing.T) {
	x := mustOpen(t, formatted(t, 8), 0, 0)
	takeKnown(t, x)
	for i, want := range []string{
		"4501000000010105010023c86a8aded0ad81f8111bb07e6ec0ffb00ce5bfef001417c07243f43fd70b2f",
		"450100000002020501036e340b9cffb37a989ca544e6bb780a2c78901d3fb33738768511a30617afa01d",
		"4502000111700305010043b7bd02bbf6649e56d2925347ca7465f873becd175eb272163df969d002a812",
		"450100000003040501006e340b9cffb37a989ca544e6bb780a2c78901d3fb33738768511a30617afa01d",
		"450300000001050501046e340b9cffb37a989ca544e6bb780a2c78901d3fb33738768511a30617afa01d",
	} {
		b, _, err := x.Event(i, 5)
		if got := hex.EncodeToString([]byte(b)); err != nil || got != want {
			t.Errorf("P18: event %d: %s, %v, want %s", i, got, err, want)
		}
	}
	want := "6ab04b2afd51742d5ba7ec395bb23e1aba03045d342ef0c51e0e09bc1f8ce5e0" +
		"869381cc2cc6576ec351933850622c8d6aeab1b3e898097ca4fb4b3e52aabfb1" +
		"6eb025fbd37959cad2f6ff7afc4b149ba9615411efc51444af1b36d7ee07de39"
	_, proof, err := x.Event(2, 5)
	if got := hex.EncodeToString([]byte(strings.Join(proof, ""))); err != nil || got != want {
		t.Errorf("P18: the proof of event 2: %s, %v", got, err)
	}
}

func TestNoSuchEvents(t *testing.T) {
	edges := []int{math.MinInt, -1 << 32, -1, 0, 1, 3, 4, api.MaxNumber, 1 << 32, 1<<32 + 1, math.MaxInt}
	for _, at := range chainPlaces() {
		d, log := filled(t, 9, 3)
		w := &twin{t: t, d: d, x: mustOpen(t, d, at[0], at[1]), ref: refNode{log: log, role: at[0], last: at[1], blocks: 9}}
		for _, n := range edges {
			for _, k := range edges {
				w.event(k, n)
				w.grown(k, n)
			}
		}
		w.same("P18", nil, nil, nil, api.OK)
	}
}

func TestEventsOfNothing(t *testing.T) {
	x := mustOpen(t, formatted(t, 8), 0, 0)
	mustHead(t, x)
	proof, err := x.Grown(0, 0)
	if err != nil || len(proof) != 0 {
		t.Errorf("P18: Grown(0, 0): %x, %v", proof, err)
	}
	_, _, err = x.Event(0, 0)
	wantErr(t, "P18: an event of nothing", err, api.ErrIndex)
	_, _, err = x.Event(0, 1)
	wantErr(t, "P18: a key is no event", err, api.ErrIndex)
	_, err = x.Grown(0, 1)
	wantErr(t, "P18: a key is no event", err, api.ErrIndex)
}

// What the book tells of a text that was redacted is a digest.
func TestEventsHaveNoTexts(t *testing.T) {
	x := mustOpen(t, formatted(t, 60), 0, 0)
	log := fill(t, x, 40)
	for i := range log {
		b, proof, err := x.Event(i, len(log))
		if err != nil || strings.Contains(b+strings.Join(proof, ""), "secret") {
			t.Errorf("P18: event %d: %q, %v", i, b, err)
		}
	}
}

func TestEventsAreTheCallers(t *testing.T) {
	w := lastTwin(t, 0, 13, 0)
	var lists, kept [][]string
	for k := range 13 {
		b, proof, err := w.x.Event(k, 13)
		wantNil(t, "P18: Event", err)
		grown, err := w.x.Grown(k, 13)
		wantNil(t, "P18: Grown", err)
		lists = append(lists, proof, grown)
		kept = append(kept, slices.Clone(proof), slices.Clone(grown))
		scrub(bytesOf(b))
		w.event(k, 13)
	}
	for i, list := range lists {
		if !slices.Equal(list, kept[i]) {
			t.Fatalf("P2: list %d shares memory with another", i)
		}
		scribble(list)
	}
	for k := range 13 {
		w.event(k, 13)
		w.grown(k, 13)
	}
}

// Proofs of one node are what the calls that take all events say.
func TestEventsAreProvenAsLeaves(t *testing.T) {
	w := lastTwin(t, 2, 11, 2)
	events := w.ref.log.events()
	for n := 1; n <= 11; n++ {
		for k := range n {
			b, proof, err := w.x.Event(k, n)
			if want := mustInclude(t, events[:n], k); err != nil || !slices.Equal(proof, want) {
				t.Errorf("P18: Event(%d, %d): %v", k, n, err)
			}
			wantNil(t, "P18: CheckInclusion", auditbook.CheckInclusion(b, k, n, auditbook.Root(events[:n]), proof))
			grown, err := w.x.Grown(k, n)
			if want := mustGrow(t, events[:n], k); err != nil || !slices.Equal(grown, want) {
				t.Errorf("P18: Grown(%d, %d): %v", k, n, err)
			}
		}
	}
}
