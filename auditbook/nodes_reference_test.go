package auditbook_test

import (
	"math/rand"

	"auditbook/api"
)

// refLog is a second make of P13 and P14: nothing but the requests, whose answers are worked out anew each time.
type refLog []api.Request

// refRecord is what a patient's record is behind some requests.
type refRecord struct {
	texts    []string
	redacted bool
}

// answers gives those of all entries, and the records behind them.
func (l refLog) answers() ([]api.Answer, map[int]refRecord) {
	all := map[int]refRecord{}
	var told []api.Answer
	for _, r := range l {
		kept, there := all[r.Patient]
		a, then := refAnswer(r, kept, there, len(all))
		if then.texts != nil {
			all[r.Patient] = then
		}
		told = append(told, a)
	}
	return told, all
}

// refAnswer is P13 from top to bottom: the answer, and the record behind it.
func refAnswer(r api.Request, kept refRecord, there bool, records int) (api.Answer, refRecord) {
	has := len(kept.texts)
	switch {
	case r.Op == api.Create && there:
		return api.Answer{Code: 2}, kept
	case r.Op == api.Create && records == 20:
		return api.Answer{Code: 5}, kept
	case r.Op == api.Create:
		return api.Answer{Version: 1}, refRecord{texts: []string{r.Text}}
	case !there:
		return api.Answer{Code: 1}, kept
	case r.Op == api.History && kept.redacted:
		return api.Answer{Code: 4, Version: has}, kept
	case r.Op == api.History:
		return api.Answer{Version: has}, kept
	case kept.redacted:
		return api.Answer{Code: 4}, kept
	case r.Op == api.Redact:
		kept.redacted = true
		return api.Answer{Version: has}, kept
	case r.Op == api.Read && r.Version > has:
		return api.Answer{Code: 1}, kept
	case r.Op == api.Read && r.Version == 0:
		return api.Answer{Version: has, Text: kept.texts[has-1]}, kept
	case r.Op == api.Read:
		return api.Answer{Version: r.Version, Text: kept.texts[r.Version-1]}, kept
	case r.Version != has:
		return api.Answer{Code: 3, Version: has}, kept
	case has == 8:
		return api.Answer{Code: 5, Version: 8}, kept
	}
	return api.Answer{Version: has + 1}, refRecord{texts: append(kept.texts[:has:has], r.Text)}
}

// last is the number of a client's last entry, or 0.
func (l refLog) last(client int) int {
	for n := len(l); n > 0; n-- {
		if l[n-1].Client == client {
			return n
		}
	}
	return 0
}

// state is what See tells of a node that has the log, and is the last of its chain or knows of no Ack.
func (l refLog) state(last bool) api.State {
	_, records := l.answers()
	s := api.State{Log: len(l), Records: len(records)}
	if last {
		s.Acked = len(l)
	}
	return s
}

// answerPacket is that of entry n.
func (l refLog) answerPacket(n int) api.Packet {
	told, _ := l.answers()
	a, r := told[n-1], l[n-1]
	head := string([]byte{'A', byte(r.No >> 24), byte(r.No >> 16), byte(r.No >> 8), byte(r.No)})
	return api.Packet{To: 10 + r.Client, Bytes: head + string([]byte{byte(a.Code), byte(a.Version), byte(len(a.Text))}) + a.Text}
}

// forwards are those from entry n on that go to a node.
func (l refLog) forwards(to, n int) []api.Packet {
	var sent []api.Packet
	for ; n <= len(l) && len(sent) < 4; n++ {
		sent = append(sent, l.forward(to, n))
	}
	return sent
}

func (l refLog) forward(to, n int) api.Packet {
	return api.Packet{To: to, Bytes: forwardBytes(n, l[n-1])}
}

// forwardBytes are those of a Forward of entry n, whatever is asked for there.
func forwardBytes(n int, r api.Request) string {
	head := []byte{'F', byte(n >> 24), byte(n >> 16), byte(n >> 8), byte(n)}
	body := []byte{'R', byte(r.Client), byte(r.No >> 24), byte(r.No >> 16), byte(r.No >> 8), byte(r.No), byte(r.Op), byte(r.Patient), byte(r.Version), byte(len(r.Text))}
	return string(head) + string(body) + r.Text
}

// request is P14 for node 0 of a chain, which has heard no Ack: what comes out, and the log behind it.
func (l refLog) request(r api.Request, last, blocks int) ([]api.Packet, api.Errno, refLog) {
	n := l.last(r.Client)
	switch {
	case n > 0 && r.No < l[n-1].No:
		return nil, api.ErrOld, l
	case n > 0 && r.No == l[n-1].No && last == 0:
		return []api.Packet{l.answerPacket(n)}, api.OK, l
	case n > 0 && r.No == l[n-1].No:
		return l.forwards(1, 1), api.OK, l
	case len(l) == blocks-1:
		return nil, api.ErrFull, l
	}
	grown := append(l[:len(l):len(l)], r)
	if last == 0 {
		return []api.Packet{grown.answerPacket(len(grown))}, api.OK, grown
	}
	return []api.Packet{grown.forward(1, len(grown))}, api.OK, grown
}

// anyRequest makes a whole request, mostly a new one, of few patients, so that they meet.
func anyRequest(rnd *rand.Rand, no int) api.Request {
	text := pattern(256)
	at := rnd.Intn(len(text) - api.MaxText)
	patients := []int{1, 2, 3, 4, 99}
	return api.Request{
		Client:  1 + rnd.Intn(api.MaxClient),
		No:      max(1, no-rnd.Intn(4)),
		Op:      1 + rnd.Intn(5),
		Patient: patients[rnd.Intn(len(patients))],
		Version: rnd.Intn(api.MaxVersions + 1),
		Text:    text[at : at+rnd.Intn(api.MaxText+1)],
	}
}
