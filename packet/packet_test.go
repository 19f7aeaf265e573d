package packet

import (
	"strings"
	"testing"

	"auditbook/api"
)

func aRequest() api.Request {
	return api.Request{Client: 9, No: 0x01020304, Op: api.Amend, Patient: 98, Version: 7, Text: "xyz"}
}

const requestBytes = "R\x09\x01\x02\x03\x04\x02\x62\x07\x03xyz"

func TestBytesOfPackets(t *testing.T) {
	for want, p := range map[string]Packet{
		"F\x00\x00\x00\x01" + requestBytes: Forward{N: 1, Request: aRequest()},
		"F\x7f\xff\xff\xff" + requestBytes: Forward{N: api.MaxNumber, Request: aRequest()},
		"K\x00\x00\x00\x00":                Ack{},
		"K\x01\x02\x03\x04":                Ack{N: 0x01020304},
		"Q\x00\x00\x00\x00":                Ask{},
		"Q\x7f\xff\xff\xff":                Ask{N: api.MaxNumber},
	} {
		if got := p.Bytes(); got != want {
			t.Errorf("P15: bytes of %+v: %q, want %q", p, got, want)
		}
		if back := Decode(want); back != p {
			t.Errorf("P15: Decode of %q: %+v, want %+v", want, back, p)
		}
	}
}

func TestBytesOfAnswers(t *testing.T) {
	for want, a := range map[string]Answer{
		"A\x00\x00\x00\x01\x00\x01\x00":               {No: 1, Answer: api.Answer{Version: 1}},
		"A\x7f\xff\xff\xff\x03\x08\x00":               {No: api.MaxNumber, Answer: api.Answer{Code: api.Conflict, Version: 8}},
		"A\x01\x02\x03\x04\x00\x02\x0812345678":       {No: 0x01020304, Answer: api.Answer{Version: 2, Text: "12345678"}},
		"A\x00\x00\x00\x02\x00\x01\x02\x00\xff":       {No: 2, Answer: api.Answer{Version: 1, Text: "\x00\xff"}},
		"A\x00\x00\x01\x00\x05\x00\x00":               {No: 256, Answer: api.Answer{Code: api.TooMany}},
		"A\x00\x00\x00\x00\x00\x00\x05\x00\x00K\x00Q": {Answer: api.Answer{Text: "\x00\x00K\x00Q"}},
	} {
		if got := a.Bytes(); got != want {
			t.Errorf("P14: bytes of %+v: %q, want %q", a, got, want)
		}
		if p := Decode(want); p != nil {
			t.Errorf("P15: an answer is read as %+v", p)
		}
	}
}

func TestAddresses(t *testing.T) {
	for client := 1; client <= api.MaxClient; client++ {
		if got := Client(client); got != 10+client {
			t.Errorf("P14: client %d is at %d", client, got)
		}
	}
	if got := To(2, Ask{N: 1}); got != (api.Packet{To: 2, Bytes: "Q\x00\x00\x00\x01"}) {
		t.Errorf("P15: an Ask to node 2: %+v", got)
	}
}

func TestBytesThatAreNoPacket(t *testing.T) {
	forward := "F\x00\x00\x00\x01" + requestBytes
	wrong := []string{
		"", "F", "K", "Q", "K\x00\x00\x00", "Q\x00\x00\x00", "F\x00\x00\x00", "F\x00\x00\x00\x01",
		"K\x00\x00\x00\x01\x00", "Q\x00\x00\x00\x01\x00", "K\x80\x00\x00\x00", "Q\xff\xff\xff\xff",
		"F\x00\x00\x00\x00" + requestBytes, "F\x80\x00\x00\x01" + requestBytes,
		"K\x00\x00\x00\x01" + requestBytes, "Q\x00\x00\x00\x01" + requestBytes,
		forward + "\x00", forward + forward, requestBytes, "\x00" + forward,
		strings.Replace(forward, "R", "E", 1),
		strings.Replace(forward, "R\x09", "R\x0a", 1),
		strings.Replace(forward, "\x03xyz", "\x09123456789", 1),
	}
	for n := range forward {
		wrong = append(wrong, forward[:n])
	}
	for mark := range 256 {
		if m := byte(mark); m != 'K' && m != 'Q' {
			wrong = append(wrong, string([]byte{m, 0, 0, 0, 1}))
		}
		if m := byte(mark); m != 'F' {
			wrong = append(wrong, string([]byte{m})+forward[1:])
		}
	}
	for _, b := range wrong {
		if p := Decode(b); p != nil {
			t.Errorf("P15: Decode of %q: %+v", b, p)
		}
	}
}
