package agg

import (
	"slices"

	"tumbler/api"
	"tumbler/micro"
	"tumbler/wide"
)

// gatherer is a kind's way: it takes a metric's events in a window, and tells their tally, once.
type gatherer interface {
	take(e api.Event)
	// tell fills in what the kind has; before is the value of the gauge of that name ahead of the window.
	tell(t *api.Tally, before api.Wide)
}

// newGatherer is one of a kind.
func newGatherer(k api.Kind) gatherer {
	switch k {
	case api.KCounter:
		return &counter{}
	case api.KGauge:
		return &gauge{}
	case api.KTimer:
		return &timer{}
	}
	return &set{members: map[string]struct{}{}}
}

// plus is the sum; no sum of events leaves 128 bits.
func plus(a api.Wide, v int64) api.Wide {
	s, _ := wide.Add(a, wide.Of(v))
	return s
}

// counter sums what its events stand for.
type counter struct{ sum api.Wide }

func (c *counter) take(e api.Event) {
	v, _ := micro.Scale(e.Value, e.Rate)
	c.sum = plus(c.sum, v)
}

func (c *counter) tell(t *api.Tally, _ api.Wide) { t.Sum = c.sum }

// gauge keeps what its events come to: a value, or what is added to the value ahead, which only the windows ahead know.
type gauge struct {
	isSet bool
	value api.Wide
}

func (g *gauge) take(e api.Event) {
	if e.Delta {
		g.value = plus(g.value, e.Value)
		return
	}
	g.isSet = true
	g.value = wide.Of(e.Value)
}

func (g *gauge) tell(t *api.Tally, before api.Wide) {
	t.Sum = g.value
	if !g.isSet {
		t.Sum, _ = wide.Add(before, g.value)
	}
}

// timer keeps its samples.
type timer struct {
	sum, weight api.Wide
	samples     []int64
}

func (m *timer) take(e api.Event) {
	one, _ := micro.Scale(api.Unit, e.Rate)
	m.sum = plus(m.sum, e.Value)
	m.weight = plus(m.weight, one)
	m.samples = append(m.samples, e.Value)
}

func (m *timer) tell(t *api.Tally, _ api.Wide) {
	slices.Sort(m.samples)
	t.Sum, t.Weight, t.Samples = m.sum, m.weight, m.samples
}

// set keeps its members.
type set struct{ members map[string]struct{} }

func (s *set) take(e api.Event) { s.members[e.Member] = struct{}{} }

func (s *set) tell(t *api.Tally, _ api.Wide) {
	for m := range s.members {
		t.Members = append(t.Members, m)
	}
	slices.Sort(t.Members)
}
