package agg_test

import (
	"fmt"
	"math"
	"math/rand"
	"slices"
	"testing"

	"tumbler/agg"
	"tumbler/api"
	"tumbler/line"
	"tumbler/micro"
	"tumbler/wide"
)

// event is what a line says.
func event(s string) api.Event {
	e, place, err := line.Parse(s)
	if err != api.OK {
		panic(fmt.Sprint(s, place, err))
	}
	return e
}

func apply(t *testing.T, a *agg.Agg, id int64, s string, want api.Errno) {
	t.Helper()
	if err := a.Apply(id, event(s)); err != want {
		t.Errorf("Apply(%d, %q) = %d; want %d", id, s, err, want)
	}
}

func same(t *testing.T, what string, got, want any) {
	t.Helper()
	if !equal(got, want) {
		t.Errorf("%s = %+v; want %+v", what, got, want)
	}
}

func counter(n string, count int, sum int64) api.Tally {
	return api.Tally{Kind: api.KCounter, Name: n, Count: count, Sum: wide.Of(sum)}
}

func gauge(n string, count int, sum int64) api.Tally {
	return api.Tally{Kind: api.KGauge, Name: n, Count: count, Sum: wide.Of(sum)}
}

func TestP8_1_2_Examples(t *testing.T) {
	a := agg.New()
	apply(t, a, 3, "a:1|c|@0.5", 0)
	apply(t, a, 3, "a:2|c|T99", 0)
	same(t, "Close", a.Close(3), []api.Window{{ID: 3, Tallies: []api.Tally{counter("a", 2, 4000000)}}})

	a = agg.New()
	apply(t, a, 2, "g:+5|g", 0)
	apply(t, a, 1, "g:10|g", 0)
	apply(t, a, 1, "g:-3|g", 0)
	same(t, "Open", a.Open(), []int64{1, 2})
	same(t, "Close", a.Close(2), []api.Window{{ID: 1, Tallies: []api.Tally{gauge("g", 2, 7000000)}}, {ID: 2, Tallies: []api.Tally{gauge("g", 1, 12000000)}}})
	if w, ok := a.Gauge("g"); w != wide.Of(12000000) || !ok {
		t.Errorf("Gauge = %v, %v", w, ok)
	}
	if len(a.Open()) != 0 {
		t.Error("closed windows are open")
	}
	apply(t, a, 4, "g:-1|g", 0)
	apply(t, a, 4, "h:-1|g", 0)
	same(t, "Close", a.Close(9), []api.Window{{ID: 4, Tallies: []api.Tally{gauge("g", 1, 11000000), gauge("h", 1, -1000000)}}})

	a = agg.New()
	for _, s := range []string{"t:3|ms|@0.1", "t:1|ms", "t:3|ms", "s:y|s", "s:x|s", "s:x|s", "t:1|c", "s:7|g"} {
		apply(t, a, -5, s, 0)
	}
	same(t, "Close", a.Close(math.MaxInt64), []api.Window{{ID: -5, Tallies: []api.Tally{counter("t", 1, 1000000), gauge("s", 1, 7000000),
		{Kind: api.KTimer, Name: "t", Count: 3, Sum: wide.Of(7000000), Weight: wide.Of(12000000), Samples: []int64{1000000, 3000000, 3000000}},
		{Kind: api.KSet, Name: "s", Count: 3, Members: []string{"x", "y"}}}}})
}

func TestP8_2_UpTo(t *testing.T) {
	a := agg.New()
	apply(t, a, 1, "g:7|g", 0)
	apply(t, a, 5, "g:3|g", 0)
	apply(t, a, 5, "g:+1|g", 0)
	apply(t, a, 1, "g:1|c", 0)
	apply(t, a, 6, "h:1|c", 0)
	same(t, "Close(4)", a.Close(4), []api.Window{{ID: 1, Tallies: []api.Tally{counter("g", 1, 1000000), gauge("g", 1, 7000000)}}})
	same(t, "Open", a.Open(), []int64{5, 6})
	same(t, "Close(6)", a.Close(6), []api.Window{{ID: 5, Tallies: []api.Tally{gauge("g", 2, 4000000)}}, {ID: 6, Tallies: []api.Tally{counter("h", 1, 1000000)}}})
	if w, ok := a.Gauge("h"); w != (api.Wide{}) || ok {
		t.Error("a counter is no gauge")
	}
}

func TestP8_1_2_Errors(t *testing.T) {
	a := agg.New()
	apply(t, a, math.MinInt64, "a:1|c", api.ErrClosed)
	a.Close(5)
	apply(t, a, 5, "a:1|c", api.ErrClosed)
	if err := a.Apply(5, api.Event{Name: "a", Kind: 9}); err != api.ErrBadKind {
		t.Errorf("Apply of none: %d", err)
	}
	apply(t, a, 6, "a:1|c", 0)
	if len(a.Close(4)) != 0 || len(a.Close(5)) != 0 {
		t.Error("Close of what is closed")
	}
	apply(t, a, 5, "a:1|c", api.ErrClosed)
	same(t, "Open", a.Open(), []int64{6})
	if l := a.Close(6); len(l) != 1 || len(a.Close(6)) != 0 || len(a.Close(7)) != 0 {
		t.Error("a window is told once")
	}
}

func TestP8_3_Looks(t *testing.T) {
	a := agg.New()
	apply(t, a, 1, "g:1|g", 0)
	if w, ok := a.Gauge("g"); w != (api.Wide{}) || ok {
		t.Error("a gauge that was never told")
	}
	for _, a := range []*agg.Agg{nil, {}} {
		w, ok := a.Gauge("g")
		apply(t, a, 1, "a:1|c", api.ErrNil)
		if len(a.Close(9)) != 0 || len(a.Open()) != 0 || ok || w != (api.Wide{}) {
			t.Error("an Agg that was not made")
		}
	}
	if (*agg.Agg)(nil).Apply(1, api.Event{}) != api.ErrNil {
		t.Error("ErrNil is first")
	}
}

func TestP8_4_Join(t *testing.T) {
	c, g := counter("a", 1, 1), gauge("a", 1, 2)
	timer := api.Tally{Kind: api.KTimer, Name: "t", Samples: []int64{1, 2}}
	set := api.Tally{Kind: api.KSet, Name: "s", Members: []string{"x"}}
	l, err := agg.Join([]api.Tally{set, g}, nil, []api.Tally{timer, counter("b", 1, 1), c})
	if err != api.OK {
		t.Errorf("Join: %d", err)
	}
	same(t, "Join", l, []api.Tally{c, counter("b", 1, 1), g, timer, set})
	l[3].Samples[0], l[4].Members[0] = 9, "z"
	if timer.Samples[0] != 1 || set.Members[0] != "x" {
		t.Error("Join shares its arguments' lists")
	}
	bad := api.Tally{Kind: 5, Name: "a"}
	for _, x := range []struct {
		l    [][]api.Tally
		want api.Errno
	}{{nil, 0}, {[][]api.Tally{{c}, {c}}, api.ErrTwice}, {[][]api.Tally{{c, c}}, api.ErrTwice}, {[][]api.Tally{{bad}}, api.ErrKind}, {[][]api.Tally{{{}}}, api.ErrKind},
		{[][]api.Tally{{c, bad}, {c}}, api.ErrKind}, {[][]api.Tally{{c, c}, {bad}}, api.ErrTwice}, {[][]api.Tally{{{Kind: -1}}}, api.ErrKind}} {
		if l, err := agg.Join(x.l...); len(l) != 0 || err != x.want {
			t.Errorf("Join(%v) = %v, %d; want %d", x.l, l, err, x.want)
		}
	}
}

type put struct {
	id int64
	e  api.Event
}

// puts are random events of a few metrics in a few windows.
func puts(r *rand.Rand) []put {
	var l []put
	for range 60 {
		n := string(rune('a' + r.Intn(3)))
		s := []string{"%s:%d|c|@0.3", "%s:+%d|g", "%s:%d|g", "%s:%d|ms|@0.7", "%s:%d|s", "%s:-%d|g"}[r.Intn(6)]
		l = append(l, put{int64(r.Intn(4)), event(fmt.Sprintf(s, n, r.Intn(5)))})
	}
	return l
}

func played(l []put) []api.Window {
	a := agg.New()
	for _, p := range l {
		a.Apply(p.id, p.e)
	}
	return a.Close(math.MaxInt64)
}

func TestP8_5_to_8_OrderAndShards(t *testing.T) {
	r := rand.New(rand.NewSource(11))
	for range 200 {
		l := puts(r)
		want := played(l)
		for i, w := range want {
			if len(w.Tallies) == 0 || i > 0 && w.ID <= want[i-1].ID {
				t.Fatal("windows rise, and have events")
			}
		}
		// Each metric's events in each window keep their order; all else is mixed.
		mixed := slices.Clone(l)
		r.Shuffle(len(mixed), func(i, j int) { mixed[i], mixed[j] = mixed[j], mixed[i] })
		at := 0
		for i := range mixed {
			if mixed[i].e.Kind == api.KGauge {
				for l[at].e.Kind != api.KGauge {
					at++
				}
				mixed[i] = l[at]
				at++
			}
		}
		same(t, "mixed", played(mixed), want)
		var byName [3][]put
		for _, p := range l {
			byName[p.e.Name[0]-'a'] = append(byName[p.e.Name[0]-'a'], p)
		}
		parts := map[int64][][]api.Tally{}
		for _, some := range byName {
			for _, w := range played(some) {
				parts[w.ID] = append(parts[w.ID], w.Tallies)
			}
		}
		var joined []api.Window
		for id := range int64(4) {
			if tallies, _ := agg.Join(parts[id]...); len(tallies) > 0 {
				joined = append(joined, api.Window{ID: id, Tallies: tallies})
			}
		}
		same(t, "joined", joined, want)
		checkSums(t, l, want)
	}
}

// checkSums holds the tallies of counters and timers against their events.
func checkSums(t *testing.T, l []put, windows []api.Window) {
	t.Helper()
	var events, told int
	var scaled, sums api.Wide
	for _, p := range l {
		if p.e.Kind == api.KCounter {
			v, _ := micro.Scale(p.e.Value, p.e.Rate)
			scaled, _ = wide.Add(scaled, wide.Of(v))
			events++
		}
	}
	for _, w := range windows {
		for _, tally := range w.Tallies {
			switch tally.Kind {
			case api.KCounter:
				sums, _ = wide.Add(sums, tally.Sum)
				told += tally.Count
			case api.KTimer:
				var s int64
				for _, v := range tally.Samples {
					s += v
				}
				if len(tally.Samples) != tally.Count || wide.Of(s) != tally.Sum || !slices.IsSorted(tally.Samples) {
					t.Fatalf("timer %+v", tally)
				}
			}
		}
	}
	if sums != scaled || told != events {
		t.Fatalf("counters told %v of %d; want %v of %d", sums, told, scaled, events)
	}
}
