package event

import (
	"testing"

	"auditbook/api"
)

func TestWithinItsBounds(t *testing.T) {
	for n := -2; n <= 7; n++ {
		if got, want := within(n, 1, 5), n == 1 || n == 2 || n == 3 || n == 4 || n == 5; got != want {
			t.Errorf("%d within 1 to 5: %v", n, got)
		}
	}
}

func TestOnlyWholeEventsHaveBytes(t *testing.T) {
	e := api.Event{Client: 1, No: 1, Op: api.Create, Patient: 1}
	if b, err := Encode(e); !Whole(e) || err != nil || len(b) != Size {
		t.Errorf("P4: whole: %v, %x, %v", Whole(e), b, err)
	}
	if b, err := Encode(api.Event{}); Whole(api.Event{}) || err != api.ErrCode || b != "" {
		t.Errorf("P4: an event of noughts: %x, %v", b, err)
	}
}
