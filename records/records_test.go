package records

import (
	"testing"

	"auditbook/api"
)

func TestRedactedTextsAreGone(t *testing.T) {
	all := Records{}
	all.Do(api.Request{Op: api.Create, Patient: 1, Text: "abc"})
	all.Do(api.Request{Op: api.Amend, Patient: 1, Version: 1, Text: "def"})
	if len(all[1].texts) != 2 {
		t.Fatalf("P13: %d texts of two versions", len(all[1].texts))
	}
	if got := all.Do(api.Request{Op: api.Redact, Patient: 1}); got != (api.Answer{Code: api.Done, Version: 2}) {
		t.Errorf("P13: Redact: %+v", got)
	}
	if len(all[1].texts) != 0 {
		t.Error("P13: a text is there still behind Redact")
	}
	if got := all.Do(api.Request{Op: api.History, Patient: 1}); got != (api.Answer{Code: api.Redacted, Version: 2}) {
		t.Errorf("P13: History behind Redact: %+v", got)
	}
}

func TestEveryOperationIsDone(t *testing.T) {
	for op := api.Create; op <= api.History; op++ {
		if deeds()[op] == nil {
			t.Errorf("P12: operation %d does nothing", op)
		}
	}
}

// What is refused changes no record.
func TestRefusedRequestsChangeNothing(t *testing.T) {
	all := Records{}
	all.Do(api.Request{Op: api.Create, Patient: 1, Text: "abc"})
	for _, r := range []api.Request{
		{Op: api.Create, Patient: 1, Text: "x"},
		{Op: api.Amend, Patient: 1, Version: 2, Text: "x"},
		{Op: api.Amend, Patient: 2, Version: 1, Text: "x"},
		{Op: api.Redact, Patient: 2},
		{Op: api.Read, Patient: 2},
		{Op: api.History, Patient: 2},
	} {
		if got := all.Do(r); got.Code == api.Done || len(all) != 1 {
			t.Errorf("P13: %+v: %+v, then %d records", r, got, len(all))
		}
	}
	if got := all.Do(api.Request{Op: api.Read, Patient: 1}); got != (api.Answer{Version: 1, Text: "abc"}) {
		t.Errorf("P13: Read behind what was refused: %+v", got)
	}
}
