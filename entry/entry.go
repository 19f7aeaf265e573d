// Package entry has what a log is made of: requests, with what they were answered, and the events that they leave.
package entry

import (
	"auditbook/api"
	"auditbook/event"
	"auditbook/hash"
	"auditbook/word"
)

const (
	mark     = 'R'
	lengthAt = 9
	textAt   = 10
	// MaxSize is how many bytes a request has at most.
	MaxSize = textAt + api.MaxText
)

// Entry is a request with its answer.
type Entry struct {
	api.Request
	Answer api.Answer
}

// Whole tells if each number of a request is within its bounds, and its text, too.
func Whole(r api.Request) bool {
	numbers := api.Event{Client: r.Client, No: r.No, Op: r.Op, Patient: r.Patient, Version: r.Version}
	return event.Whole(numbers) && len(r.Text) <= api.MaxText
}

// Encode gives the bytes of a whole request.
func Encode(r api.Request) string {
	b := make([]byte, 0, MaxSize)
	b = append(b, mark, byte(r.Client))
	b = word.Append(b, uint32(r.No))
	b = append(b, byte(r.Op), byte(r.Patient), byte(r.Version), byte(len(r.Text)))
	b = append(b, r.Text...)
	return string(b)
}

// Decode gives the whole request that has these bytes, and tells if there is one.
func Decode(b string) (api.Request, bool) {
	if len(b) < textAt || b[0] != mark || len(b) != textAt+int(b[lengthAt]) {
		return api.Request{}, false
	}
	r := api.Request{
		Client:  int(b[1]),
		No:      int(word.Read([]byte(b[2:6]))),
		Op:      int(b[6]),
		Patient: int(b[7]),
		Version: int(b[8]),
		Text:    b[textAt:],
	}
	if !Whole(r) {
		return api.Request{}, false
	}
	return r, true
}

// Event is what the entry leaves for ever: a digest stands for its texts.
func (e Entry) Event() api.Event {
	length := string([]byte{byte(len(e.Text))})
	return api.Event{
		Client:  e.Client,
		No:      e.No,
		Op:      e.Op,
		Patient: e.Patient,
		Version: e.Answer.Version,
		Code:    e.Answer.Code,
		Digest:  hash.Of(length, e.Text, e.Answer.Text),
	}
}
