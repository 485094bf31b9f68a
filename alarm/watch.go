package alarm

import (
	"tumbler/api"
	"tumbler/wide"
)

// watch is a rule and how it stands.
type watch struct {
	rule      api.AlarmRule
	state     api.State
	level     func(v api.Wide) api.State // the level of the next value, in this state
	said      api.State
	saidAt    int64
	candidate api.State // 0: none
	points    int       // how many running it has been the candidate
	gaps      int       // how many points running had no value
	last      int64     // the second of the last point; -1: none
	muted     int64
}

func newWatch(r api.AlarmRule) *watch {
	w := &watch{rule: r, said: api.SFine, last: -1}
	w.enter(api.SFine)
	return w
}

// enter makes a state the rule's.
func (w *watch) enter(s api.State) {
	w.state = s
	w.candidate, w.points = 0, 0
	switch s {
	case api.SWarn:
		w.level = w.fromWarn
	case api.SCrit:
		w.level = w.fromCrit
	default:
		w.level = w.fromFine
	}
}

// fromFine is a value's level where nothing holds one up.
func (w *watch) fromFine(v api.Wide) api.State {
	switch {
	case w.beyond(v, w.rule.Crit):
		return api.SCrit
	case w.beyond(v, w.rule.Warn):
		return api.SWarn
	}
	return api.SFine
}

// fromWarn is likewise where a value that is near the first threshold stays there.
func (w *watch) fromWarn(v api.Wide) api.State {
	l := w.fromFine(v)
	if l == api.SFine && w.near(v, w.rule.Warn) {
		return api.SWarn
	}
	return l
}

// fromCrit is likewise where a value that is near either stays there.
func (w *watch) fromCrit(v api.Wide) api.State {
	if w.near(v, w.rule.Crit) {
		return api.SCrit
	}
	return w.fromWarn(v)
}

// beyond tells whether a value is beyond a threshold.
func (w *watch) beyond(v, threshold api.Wide) bool {
	if w.rule.Above {
		return wide.Cmp(v, threshold) >= 0
	}
	return wide.Cmp(v, threshold) <= 0
}

// near tells whether it is so, but for the slack. Thresholds and slacks are far from where 128 bits end.
func (w *watch) near(v, threshold api.Wide) bool {
	eased, _ := wide.Add(threshold, w.rule.Slack)
	if w.rule.Above {
		eased, _ = wide.Sub(threshold, w.rule.Slack)
	}
	return w.beyond(v, eased)
}

// gap takes a point without a value.
func (w *watch) gap() {
	w.candidate, w.points = 0, 0
	w.gaps++
	if w.rule.Absent > 0 && w.gaps >= w.rule.Absent {
		w.enter(api.SNone)
	}
}

// move takes a value's level.
func (w *watch) move(level api.State) {
	switch {
	case level == w.state:
		w.candidate, w.points = 0, 0
	case w.state == api.SNone || level < w.state:
		w.enter(level)
	default:
		if level != w.candidate {
			w.candidate, w.points = level, 0
		}
		w.points++
		if w.points >= w.rule.For {
			w.enter(level)
		}
	}
}

// say tells of a change, or of a state that lasts, unless the rule is muted.
func (w *watch) say(at int64, c api.Cell) []api.Alert {
	again := w.state == w.said
	if at < w.muted || again && !w.due(at) {
		return nil
	}
	a := api.Alert{Name: w.rule.Name, Time: at, From: w.said, To: w.state, Again: again, Value: c}
	w.said, w.saidAt = w.state, at
	return []api.Alert{a}
}

// due tells whether what was said is to be said again.
func (w *watch) due(at int64) bool {
	return w.state != api.SFine && w.rule.Again > 0 && at-w.saidAt >= w.rule.Again
}
