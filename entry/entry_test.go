package entry

import (
	"crypto/sha256"
	"strings"
	"testing"

	"auditbook/api"
	"auditbook/event"
)

func aRequest() api.Request {
	return api.Request{Client: 9, No: 0x01020304, Op: api.Amend, Patient: 98, Version: 7, Text: "12345678"}
}

func TestBytesOfARequest(t *testing.T) {
	for text, want := range map[string]string{
		"":         "R\x09\x01\x02\x03\x04\x02\x62\x07\x00",
		"\x00":     "R\x09\x01\x02\x03\x04\x02\x62\x07\x01\x00",
		"12345678": "R\x09\x01\x02\x03\x04\x02\x62\x07\x0812345678",
	} {
		r := aRequest()
		r.Text = text
		if got := Encode(r); got != want {
			t.Errorf("P15: Encode of %+v: %q, want %q", r, got, want)
		}
		if back, ok := Decode(want); !ok || back != r {
			t.Errorf("P15: Decode of %q: %+v, %v", want, back, ok)
		}
	}
	if len(Encode(aRequest())) != MaxSize {
		t.Errorf("the longest request has %d bytes, not %d", len(Encode(aRequest())), MaxSize)
	}
}

func TestBytesThatAreNoRequest(t *testing.T) {
	whole := Encode(aRequest())
	wrong := []string{"", "R", whole[:9], whole[:10], whole[:17], whole + "\x00", strings.Repeat("\x00", 18), "E" + whole[1:]}
	for _, c := range []struct {
		at   int
		byte string
	}{{1, "\x00"}, {1, "\x0a"}, {2, "\x80"}, {6, "\x00"}, {6, "\x06"}, {7, "\x00"}, {7, "\x64"}, {8, "\x09"}, {9, "\x07"}, {9, "\x09"}} {
		wrong = append(wrong, whole[:c.at]+c.byte+whole[c.at+1:])
	}
	wrong = append(wrong, whole[:2]+"\x00\x00\x00\x00"+whole[6:], whole[:9]+"\x09123456789")
	for _, b := range wrong {
		if r, ok := Decode(b); ok || r != (api.Request{}) {
			t.Errorf("P12: Decode of %q: %+v, %v", b, r, ok)
		}
	}
}

func TestWhole(t *testing.T) {
	if !Whole(aRequest()) {
		t.Error("P12: a whole request is none")
	}
	for i, turn := range []func(r *api.Request){
		func(r *api.Request) { r.Client = 10 },
		func(r *api.Request) { r.No = 0 },
		func(r *api.Request) { r.Op = 6 },
		func(r *api.Request) { r.Patient = 100 },
		func(r *api.Request) { r.Version = 9 },
		func(r *api.Request) { r.Text += "9" },
	} {
		r := aRequest()
		if turn(&r); Whole(r) {
			t.Errorf("P12: wrong request %d is whole", i)
		}
	}
}

func TestEvent(t *testing.T) {
	for _, c := range []struct {
		text   string
		answer api.Answer
		digest string
	}{
		{"", api.Answer{}, "\x00"},
		{"", api.Answer{Code: api.NotFound}, "\x00"},
		{"abc", api.Answer{Code: api.Conflict, Version: 3}, "\x03abc"},
		{"12345678", api.Answer{Code: api.Done, Version: 8, Text: "87654321"}, "\x081234567887654321"},
		{"", api.Answer{Code: api.Done, Version: 1, Text: "abc"}, "\x00abc"},
		{"a", api.Answer{Code: api.Done, Version: 1, Text: "bc"}, "\x01abc"},
	} {
		r := aRequest()
		r.Text = c.text
		want := api.Event{Client: r.Client, No: r.No, Op: r.Op, Patient: r.Patient, Version: c.answer.Version, Code: c.answer.Code, Digest: sha256.Sum256([]byte(c.digest))}
		got := Entry{Request: r, Answer: c.answer}.Event()
		if got != want || !event.Whole(got) {
			t.Errorf("P13: the event of %+v, answered %+v: %+v", r, c.answer, got)
		}
	}
}
