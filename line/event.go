package line

import (
	"strconv"

	"tumbler/api"
	"tumbler/micro"
	"tumbler/name"
)

// Check tells whether some line says an event.
func Check(e api.Event) api.Errno {
	switch {
	case !name.Valid(e.Name):
		return api.ErrBadName
	case lettersOf(e.Kind) == "":
		return api.ErrBadKind
	case !mayValue(e):
		return api.ErrBadValue
	case !rate(e.Rate) || !rated(e.Kind) && e.Rate != api.Unit:
		return api.ErrBadRate
	case !e.Timed && e.Time != 0 || e.Time < 0 || e.Time > api.MaxStamp:
		return api.ErrBadStamp
	}
	return api.OK
}

// mayValue tells whether value, delta and member may be those of the kind.
func mayValue(e api.Event) bool {
	if e.Value < -api.MaxValue || e.Value > api.MaxValue {
		return false
	}
	switch e.Kind {
	case api.KSet:
		return e.Value == 0 && !e.Delta && member(e.Member)
	case api.KGauge:
		return e.Member == "" && (e.Delta || e.Value >= 0)
	case api.KTimer:
		if !sample(e.Value) {
			return false
		}
		fallthrough
	default:
		return e.Member == "" && !e.Delta
	}
}

// Print writes the line that says an event.
func Print(e api.Event) (string, api.Errno) {
	if err := Check(e); err != api.OK {
		return "", err
	}
	s := e.Name + ":" + valueText(e) + "|" + lettersOf(e.Kind)
	if e.Rate != api.Unit {
		s += "|@" + micro.Print(e.Rate)
	}
	if e.Timed {
		s += "|T" + strconv.FormatInt(e.Time, 10)
	}
	return s, api.OK
}

// valueText is the value as it stands in a line.
func valueText(e api.Event) string {
	if e.Kind == api.KSet {
		return e.Member
	}
	s := micro.Print(e.Value)
	if e.Delta && e.Value >= 0 {
		s = "+" + s
	}
	return s
}
