package config

import (
	"strings"

	"tumbler/api"
)

// reader takes the lines of settings.
type reader struct {
	gate   api.Config
	flush  api.Flush
	relay  api.RelayConfig
	rules  []*api.Rule
	alarms []*api.AlarmRule
	begun  map[string]struct{} // the sections that stand there already
	keys   map[string]field    // those of the section at hand; nil ahead of the first section
	used   map[string]struct{} // those that have come
}

// newReader is one for which no section stands there.
func newReader() *reader {
	r := &reader{begun: map[string]struct{}{}}
	usual(gateFields(&r.gate))
	usual(flushFields(&r.flush))
	return r
}

// usual gives all keys the values that they have where they are missing.
func usual(fields []field) []field {
	for _, f := range fields {
		f.set(f.usual)
	}
	return fields
}

// setup is what the lines say.
func (r *reader) setup() api.Setup {
	s := api.Setup{Gate: r.gate, Flush: r.flush, Relay: r.relay}
	for _, x := range r.rules {
		s.Rules = append(s.Rules, *x)
	}
	for _, x := range r.alarms {
		s.Alarms = append(s.Alarms, *x)
	}
	return s
}

// line takes a line without blanks at its ends.
func (r *reader) line(s string) api.Errno {
	if s == "" || s[0] == '#' {
		return api.OK
	}
	if s[0] == '[' && s[len(s)-1] == ']' {
		return r.section(s[1 : len(s)-1])
	}
	key, value, is := strings.Cut(s, "=")
	key = strings.TrimRight(key, blanks)
	if !is || !mayKey(key) {
		return api.ErrLine
	}
	f, is := r.keys[key]
	if !is {
		return api.ErrKey
	}
	if _, again := r.used[key]; again {
		return api.ErrAgain
	}
	r.used[key] = struct{}{}
	if !f.set(strings.TrimLeft(value, blanks)) {
		return api.ErrValue
	}
	return api.OK
}

// mayKey tells whether a text has the form of a key.
func mayKey(s string) bool {
	for i := range len(s) {
		if s[i] < 'a' || s[i] > 'z' {
			return false
		}
	}
	return s != ""
}

// section begins one.
func (r *reader) section(title string) api.Errno {
	_, again := r.begun[title]
	r.begun[title] = struct{}{}
	var fields []field
	switch title {
	case "gate":
		fields = gateFields(&r.gate)
	case "flush":
		fields = flushFields(&r.flush)
	case "relay":
		fields = relayFields(&r.relay)
	case "rule":
		if len(r.rules) == api.MaxRules {
			return api.ErrMany
		}
		x := &api.Rule{}
		r.rules = append(r.rules, x)
		fields, again = ruleFields(x), false
	case "alarm":
		if len(r.alarms) == api.MaxAlarms {
			return api.ErrMany
		}
		x := &api.AlarmRule{}
		r.alarms = append(r.alarms, x)
		fields, again = alarmFields(x), false
	default:
		return api.ErrKey
	}
	if again {
		return api.ErrAgain
	}
	r.keys, r.used = map[string]field{}, map[string]struct{}{}
	for _, f := range usual(fields) {
		r.keys[f.key] = f
	}
	return api.OK
}
