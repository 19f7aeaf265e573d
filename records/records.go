// Package records keeps the records of patients, and does to them what requests ask for.
package records

import "auditbook/api"

// Records are those of all patients, by the patient's number.
type Records map[int]*record

// record stays when it is redacted: only its texts go.
type record struct {
	versions int
	redacted bool
	texts    map[int]text // by the version's number
}

type text struct{ said string }

// deed is what a request does, and how it is answered.
type deed func(all Records, r api.Request) api.Answer

func deeds() [api.History + 1]deed {
	return [...]deed{
		api.Create:  Records.create,
		api.Amend:   Records.amend,
		api.Read:    Records.read,
		api.Redact:  Records.redact,
		api.History: Records.history,
	}
}

// Do does what a whole request asks for.
func (all Records) Do(r api.Request) api.Answer { return deeds()[r.Op](all, r) }

func (all Records) create(r api.Request) api.Answer {
	if all[r.Patient] != nil {
		return api.Answer{Code: api.Exists}
	}
	if len(all) == api.MaxRecords {
		return api.Answer{Code: api.TooMany}
	}
	made := &record{texts: map[int]text{}}
	all[r.Patient] = made
	return made.add(r.Text)
}

func (all Records) amend(r api.Request) api.Answer {
	kept, code := all.find(r.Patient)
	if code != api.Done {
		return api.Answer{Code: code}
	}
	if r.Version != kept.versions {
		return kept.told(api.Conflict)
	}
	if kept.versions == api.MaxVersions {
		return kept.told(api.TooMany)
	}
	return kept.add(r.Text)
}

func (all Records) read(r api.Request) api.Answer {
	kept, code := all.find(r.Patient)
	if code != api.Done {
		return api.Answer{Code: code}
	}
	if r.Version > kept.versions {
		return api.Answer{Code: api.NotFound}
	}
	version := r.Version
	if version == 0 {
		version = kept.versions
	}
	return api.Answer{Code: api.Done, Version: version, Text: kept.texts[version].said}
}

func (all Records) redact(r api.Request) api.Answer {
	kept, code := all.find(r.Patient)
	if code != api.Done {
		return api.Answer{Code: code}
	}
	kept.redacted = true
	clear(kept.texts)
	return kept.told(api.Done)
}

func (all Records) history(r api.Request) api.Answer {
	kept, code := all.find(r.Patient)
	if kept == nil {
		return api.Answer{Code: code}
	}
	return kept.told(code)
}

// find gives the record of a patient, if there is one, and tells by a code if it can be asked: NotFound, Redacted or Done.
func (all Records) find(patient int) (*record, int) {
	kept := all[patient]
	if kept == nil {
		return nil, api.NotFound
	}
	if kept.redacted {
		return kept, api.Redacted
	}
	return kept, api.Done
}

// add puts one more version behind the others.
func (kept *record) add(said string) api.Answer {
	kept.versions++
	kept.texts[kept.versions] = text{said}
	return kept.told(api.Done)
}

// told is an answer with how many versions there are.
func (kept *record) told(code int) api.Answer {
	return api.Answer{Code: code, Version: kept.versions}
}
