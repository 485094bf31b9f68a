package admit

import (
	"tumbler/api"
	"tumbler/line"
	"tumbler/window"
)

// tried is a line that is tried.
type tried struct {
	source string
	ok     bool // it says an event
	event  api.Event
	window int64
}

// read reads a line; its event has a second, its own or now.
func (g *Gate) read(source, text string) *tried {
	e, _, err := line.Parse(text)
	if err != api.OK {
		return &tried{source: source}
	}
	if !e.Timed {
		e.Timed, e.Time = true, g.now
	}
	id, _ := window.Of(e.Time, g.config.Width) // a width that may be
	return &tried{source: source, ok: true, event: e, window: id}
}

// verdict is what the first trial that speaks says. Those behind sources find the line heard.
func (g *Gate) verdict(l *tried) api.Verdict {
	trials := []func(*tried) api.Verdict{g.malformed, g.future, g.noSource, g.late, g.noSeries, g.noGauge}
	for _, trial := range trials {
		if v := trial(l); v != 0 {
			return v
		}
	}
	return g.accept(l)
}

func (g *Gate) malformed(l *tried) api.Verdict {
	if !l.ok {
		return api.VMalformed
	}
	return 0
}

func (g *Gate) future(l *tried) api.Verdict {
	if l.event.Time > g.now+g.config.Ahead {
		return api.VFuture
	}
	return 0
}

// noSource hears the source, if there is room for it.
func (g *Gate) noSource(l *tried) api.Verdict {
	if g.sources.Hear(l.source, l.event.Time, g.now) != api.OK {
		return api.VSource
	}
	return 0
}

func (g *Gate) late(l *tried) api.Verdict {
	if l.window <= g.closed {
		return api.VLate
	}
	return 0
}

func (g *Gate) noSeries(l *tried) api.Verdict {
	has := g.metrics[l.window]
	if _, is := has[l.metric()]; !is && len(has) >= g.config.Series {
		return api.VSeries
	}
	return 0
}

func (g *Gate) noGauge(l *tried) api.Verdict {
	if l.event.Kind != api.KGauge {
		return 0
	}
	if _, is := g.gauges[l.event.Name]; !is && len(g.gauges) >= g.config.Gauges {
		return api.VGauge
	}
	return 0
}

// accept remembers the metric.
func (g *Gate) accept(l *tried) api.Verdict {
	if g.metrics[l.window] == nil {
		g.metrics[l.window] = map[metric]struct{}{}
	}
	g.metrics[l.window][l.metric()] = struct{}{}
	if l.event.Kind == api.KGauge {
		g.gauges[l.event.Name] = struct{}{}
	}
	return api.VAccepted
}

func (l *tried) metric() metric {
	return metric{l.event.Kind, l.event.Name}
}

// The places of verdicts' counts: they follow the verdicts' own numbers.
const (
	lines = iota
	accepted
	malformed
	future
	noSource
	late
	noSeries
	noGauge
	places
)

// counts says how many lines had which verdict.
type counts [places]int

// add counts a line.
func (c *counts) add(v api.Verdict) {
	c[lines]++
	c[v]++
}

// ledger is the counts by their names.
func (c *counts) ledger() api.Ledger {
	return api.Ledger{Lines: c[lines], Accepted: c[accepted], Malformed: c[malformed], Future: c[future],
		Source: c[noSource], Late: c[late], Series: c[noSeries], Gauge: c[noGauge]}
}
