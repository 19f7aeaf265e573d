package auditbook_test

import (
	"crypto/sha256"
	"encoding/hex"
	"errors"
	"math"
	"strings"
	"sync"
	"testing"

	"auditbook/api"
	"auditbook/auditbook"
)

// pattern is a text of n bytes, among them all values, that does not repeat with a hash's block.
func pattern(n int) string {
	b := make([]byte, n)
	for i := range b {
		b[i] = byte(i*151 + i>>8)
	}
	return string(b)
}

// wholeEvent is one whose numbers and digest are all different.
func wholeEvent() api.Event {
	e := api.Event{Client: 7, No: 0x01020304, Op: api.Redact, Patient: 98, Version: 6, Code: api.Conflict}
	for i := range e.Digest {
		e.Digest[i] = byte(200 + i)
	}
	return e
}

// number is one of an event's numbers: its bounds, its place in the bytes, how many bytes it has there.
type number struct {
	name      string
	of        func(e *api.Event) *int
	low, high int
	at, size  int
}

func numbers() []number {
	return []number{
		{"Client", func(e *api.Event) *int { return &e.Client }, 1, 9, 1, 1},
		{"No", func(e *api.Event) *int { return &e.No }, 1, 2147483647, 2, 4},
		{"Op", func(e *api.Event) *int { return &e.Op }, 1, 5, 6, 1},
		{"Patient", func(e *api.Event) *int { return &e.Patient }, 1, 99, 7, 1},
		{"Version", func(e *api.Event) *int { return &e.Version }, 0, 8, 8, 1},
		{"Code", func(e *api.Event) *int { return &e.Code }, 0, 5, 9, 1},
	}
}

// put writes a number's bytes, the high one first, whatever fits.
func (f number) put(b []byte, n int) {
	for i := range f.size {
		b[f.at+i] = byte(n >> (8 * (f.size - 1 - i)))
	}
}

func mustEncode(t *testing.T, e api.Event) string {
	t.Helper()
	b, err := auditbook.Encode(e)
	if err != nil {
		t.Fatalf("P4: Encode(%+v): %v", e, err)
	}
	return b
}

func wantNoBytes(t *testing.T, e api.Event) {
	t.Helper()
	b, err := auditbook.Encode(e)
	if !errors.Is(err, api.ErrCode) {
		t.Errorf("P4: Encode(%+v): %v, want ErrCode", e, err)
	}
	if b != "" {
		t.Errorf("P1: Encode(%+v): %x with an error", e, b)
	}
}

func wantNoEvent(t *testing.T, b string) {
	t.Helper()
	e, err := auditbook.Decode(b)
	if !errors.Is(err, api.ErrCode) {
		t.Errorf("P4: Decode(%x): %v, want ErrCode", b, err)
	}
	if e != (api.Event{}) {
		t.Errorf("P1: Decode(%x): %+v with an error", b, e)
	}
}

func wantBothWays(t *testing.T, e api.Event, b string) {
	t.Helper()
	if got, err := auditbook.Encode(e); err != nil || got != b {
		t.Errorf("P4: Encode(%+v): %x, %v, want %x", e, got, err, b)
	}
	if got, err := auditbook.Decode(b); err != nil || got != e {
		t.Errorf("P4: Decode(%x): %+v, %v, want %+v", b, got, err, e)
	}
}

func TestSumOfKnownTexts(t *testing.T) {
	for _, c := range []struct{ text, want string }{
		{"", "e3b0c44298fc1c149afbf4c8996fb92427ae41e4649b934ca495991b7852b855"},
		{"abc", "ba7816bf8f01cfea414140de5dae2223b00361a396177a9cb410ff61f20015ad"},
		{"abcdbcdecdefdefgefghfghighijhijkijkljklmklmnlmnomnopnopq", "248d6a61d20638b8e5c026930c3e6039a33ce45964ff2167f6ecedd419db06c1"},
		{strings.Repeat("a", 1000000), "cdc76e5c9914fb9281a1c7e284d73e67f1809a48a497200e046d39ccc7112cd0"},
	} {
		if got := hex.EncodeToString([]byte(auditbook.Sum(c.text))); got != c.want {
			t.Errorf("P3: Sum of %d bytes: %s, want %s", len(c.text), got, c.want)
		}
	}
}

func TestSumAtEveryLength(t *testing.T) {
	const blocks = 9
	for n := range blocks*64 + 1 {
		for _, text := range []string{pattern(n), strings.Repeat("\x00", n), strings.Repeat("\xff", n), strings.Repeat("\x80", n)} {
			want := sha256.Sum256([]byte(text))
			if got := auditbook.Sum(text); got != string(want[:]) {
				t.Fatalf("P3: Sum(%x): %x, want %x", text, got, want)
			}
		}
	}
}

func TestSumOfLongTexts(t *testing.T) {
	// From 2^13 and from 2^21 bytes on, the length in bits has one more byte.
	for _, middle := range []int{1 << 13, 1 << 16, 1 << 21} {
		for n := middle - 10; n <= middle+10; n++ {
			text := pattern(n)
			if want := sha256.Sum256([]byte(text)); auditbook.Sum(text) != string(want[:]) {
				t.Errorf("P3: Sum of %d bytes is another", n)
			}
		}
	}
}

func TestSumTakesBytesNotRunes(t *testing.T) {
	for _, text := range []string{"\xc3", "\xff\xfe\xfd", "é", "\u2028", "\xed\xa0\x80", "a\x00b"} {
		if want := sha256.Sum256([]byte(text)); auditbook.Sum(text) != string(want[:]) {
			t.Errorf("P3: Sum(%x): %x, want %x", text, auditbook.Sum(text), want)
		}
	}
}

func TestEventHasItsBytes(t *testing.T) {
	e := wholeEvent()
	wantBothWays(t, e, "E\x07\x01\x02\x03\x04\x04\x62\x06\x03"+string(e.Digest[:]))
	lowest := api.Event{Client: 1, No: 1, Op: 1, Patient: 1}
	wantBothWays(t, lowest, "E\x01\x00\x00\x00\x01\x01\x01\x00\x00"+strings.Repeat("\x00", 32))
	highest := api.Event{Client: 9, No: 2147483647, Op: 5, Patient: 99, Version: 8, Code: 5}
	for i := range highest.Digest {
		highest.Digest[i] = 255
	}
	wantBothWays(t, highest, "E\x09\x7f\xff\xff\xff\x05\x63\x08\x05"+strings.Repeat("\xff", 32))
}

func TestEventWithinEachBound(t *testing.T) {
	for _, f := range numbers() {
		whole := []int{f.low, f.low + 1, f.high - 1, f.high}
		for n := f.low; n <= f.high && n < 1000; n++ {
			whole = append(whole, n)
		}
		for i := 8; i < 31 && f.high > 1000; i++ {
			whole = append(whole, 1<<i-1, 1<<i)
		}
		for _, n := range whole {
			e := wholeEvent()
			*f.of(&e) = n
			want := []byte(mustEncode(t, wholeEvent()))
			f.put(want, n)
			wantBothWays(t, e, string(want))
		}
	}
}

func TestEventBeyondEachBound(t *testing.T) {
	for _, f := range numbers() {
		beyond := []int{f.low - 1, f.high + 1, f.low - 256, f.high + 256, -1, -f.high, math.MinInt, math.MinInt + f.high, math.MaxInt, math.MinInt32}
		if f.size == 1 { // these have the last byte of a number that is within
			beyond = append(beyond, 256+f.low, 256+f.high, 1<<16+f.low, 1<<32+f.low, math.MinInt+f.low)
		} else {
			beyond = append(beyond, 1<<32-1, 1<<32, 1<<32+1, 1<<33+5)
		}
		for _, n := range beyond {
			e := wholeEvent()
			*f.of(&e) = n
			wantNoBytes(t, e)
		}
	}
	wantNoBytes(t, api.Event{})
}

func TestBytesBeyondEachBound(t *testing.T) {
	whole := mustEncode(t, wholeEvent())
	for _, f := range numbers() {
		beyond := []int{1 << 31, 1<<31 + 1, 1<<32 - 1, 0}
		if f.size == 1 {
			beyond = beyond[:0]
			for n := range 256 {
				if n < f.low || n > f.high {
					beyond = append(beyond, n)
				}
			}
		}
		for _, n := range beyond {
			b := []byte(whole)
			f.put(b, n)
			wantNoEvent(t, string(b))
		}
	}
}

func TestBytesWithAnotherMark(t *testing.T) {
	whole := mustEncode(t, wholeEvent())
	for n := range 256 {
		if n != 'E' {
			wantNoEvent(t, string([]byte{byte(n)})+whole[1:])
		}
	}
}

func TestBytesOfAnotherLength(t *testing.T) {
	whole := mustEncode(t, wholeEvent())
	for n := range len(whole) {
		wantNoEvent(t, whole[:n])
		wantNoEvent(t, whole[n+1:])
		wantNoEvent(t, whole[:n]+whole[n+1:])
		wantNoEvent(t, whole+whole[:n+1])
	}
	wantNoEvent(t, whole+"\x00")
	wantNoEvent(t, "\x00"+whole)
	wantNoEvent(t, strings.Repeat("E", 1<<20))
	wantNoEvent(t, strings.Repeat("\x00", 42))
	wantNoEvent(t, strings.Repeat("\xff", 42))
}

func TestDigestIsAnyBytes(t *testing.T) {
	whole := mustEncode(t, wholeEvent())
	for at := range 32 {
		for n := range 256 {
			e := wholeEvent()
			e.Digest[at] = byte(n)
			wantBothWays(t, e, whole[:10+at]+string([]byte{byte(n)})+whole[11+at:])
		}
	}
}

func TestAnswersHangOnArgumentsAlone(t *testing.T) {
	text, e := pattern(200), wholeEvent()
	sum, b := auditbook.Sum(text), mustEncode(t, e)
	auditbook.Sum("another text")
	wantNoBytes(t, api.Event{})
	wantNoEvent(t, "x")
	got, err := auditbook.Decode(b)
	if err != nil {
		t.Fatal(err)
	}
	got.Client, got.Digest[0] = 1, 0
	if auditbook.Sum(text) != sum {
		t.Error("P2: Sum answers otherwise the second time")
	}
	wantBothWays(t, e, b)
}

func TestCallsAtTheSameTime(t *testing.T) {
	e := wholeEvent()
	b := mustEncode(t, e)
	var all sync.WaitGroup
	for n := range 8 {
		all.Go(func() {
			text := pattern(50 + n)
			want := sha256.Sum256([]byte(text))
			for range 200 {
				if auditbook.Sum(text) != string(want[:]) {
					t.Errorf("P2: Sum of %d bytes hangs on other calls", len(text))
				}
				wantBothWays(t, e, b)
			}
		})
	}
	all.Wait()
}

// FuzzDecode: whatever the bytes are, they are refused, or just those of the event that comes out.
func FuzzDecode(f *testing.F) {
	e := wholeEvent()
	b, err := auditbook.Encode(e)
	if err != nil {
		f.Fatal(err)
	}
	f.Add(b)
	f.Add("")
	f.Add(strings.Repeat("E", 42))
	f.Add("E\x01\x80\x00\x00\x00\x01\x01\x00\x00" + strings.Repeat("d", 32))
	f.Fuzz(func(t *testing.T, b string) {
		e, err := auditbook.Decode(b)
		if err != nil {
			wantNoEvent(t, b)
			return
		}
		wantBothWays(t, e, b)
	})
}
