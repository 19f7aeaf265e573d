// Package event writes events as bytes, and reads them.
package event

import (
	"auditbook/api"
	"auditbook/word"
)

const (
	mark     = 'E'
	digestAt = 10
	// Size is how many bytes an event has.
	Size = digestAt + api.HashSize
)

// Whole tells if each number of an event is within its bounds.
func Whole(e api.Event) bool {
	return within(e.Client, 1, api.MaxClient) &&
		within(e.No, 1, api.MaxNumber) &&
		within(e.Op, api.Create, api.History) &&
		within(e.Patient, 1, api.MaxPatient) &&
		within(e.Version, 0, api.MaxVersions) &&
		within(e.Code, api.Done, api.TooMany)
}

func within(n, low, high int) bool { return low <= n && n <= high }

// Encode gives the bytes of an event, or ErrCode if it is not whole.
func Encode(e api.Event) (string, error) {
	// Only the numbers of a whole event fit into their bytes.
	if !Whole(e) {
		return "", api.ErrCode
	}
	b := make([]byte, 0, Size)
	b = append(b, mark, byte(e.Client))
	b = word.Append(b, uint32(e.No))
	b = append(b, byte(e.Op), byte(e.Patient), byte(e.Version), byte(e.Code))
	b = append(b, e.Digest[:]...)
	return string(b), nil
}

// Decode gives the event that has these bytes, or ErrCode if no whole one has.
func Decode(b string) (api.Event, error) {
	if len(b) != Size || b[0] != mark {
		return api.Event{}, api.ErrCode
	}
	e := api.Event{
		Client:  int(b[1]),
		No:      int(word.Read([]byte(b[2:6]))),
		Op:      int(b[6]),
		Patient: int(b[7]),
		Version: int(b[8]),
		Code:    int(b[9]),
	}
	copy(e.Digest[:], b[digestAt:])
	if !Whole(e) {
		return api.Event{}, api.ErrCode
	}
	return e, nil
}
