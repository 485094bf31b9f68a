package engine_test

import (
	"fmt"
	"math"
	"math/rand"
	"slices"
	"strings"
	"testing"

	"tumbler/admit"
	"tumbler/api"
	"tumbler/engine"
	"tumbler/shard"
	"tumbler/wide"
)

var usual = api.Config{Width: 10, Late: 0, Ahead: 1000, Idle: 60, Sources: 9, Series: 9, Gauges: 9, Shards: 2, Queue: 1}

func made(t *testing.T, c api.Config) *engine.Engine {
	t.Helper()
	e, err := engine.New(c)
	if err != api.OK {
		t.Fatalf("New: %d", err)
	}
	return e
}

func packet(source, data string) api.Input {
	return api.Input{Kind: api.InPacket, Source: source, Data: []byte(data)}
}

var shut = api.Input{Kind: api.InShut}

func feed(t *testing.T, e *engine.Engine, in api.Input, want ...api.Verdict) {
	t.Helper()
	if v, err := e.Feed(in); err != api.OK || !slices.Equal(v, want) {
		t.Errorf("Feed(%q) = %v, %d; want %v", in.Data, v, err, want)
	}
}

func view(t *testing.T, e *engine.Engine, want api.View) {
	t.Helper()
	if v := e.View(); !equal(v, want) {
		t.Errorf("View %+v; want %+v", v, want)
	}
}

func drain(t *testing.T, e *engine.Engine, want int) {
	t.Helper()
	if n := e.Drain(); n != want || e.Step(0) != -1 || len(e.Ready()) != 0 {
		t.Errorf("Drain = %d; want %d", n, want)
	}
}

func TestP15_Examples(t *testing.T) {
	e := made(t, usual)
	view(t, e, api.View{In: []int{0, 0}, Out: []int{0, 0}})
	feed(t, e, packet("s", "a:1|c|T5\na:2|c|T6"), api.VAccepted, api.VAccepted)
	view(t, e, api.View{Pending: 2, In: []int{0, 0}, Out: []int{0, 0}})
	if l := e.Ready(); !slices.Equal(l, []int{0}) {
		t.Errorf("Ready = %v", l)
	}
	drain(t, e, 4)
	if len(e.Windows()) != 0 {
		t.Error("window 0 is open")
	}
	feed(t, e, packet("s", "b:1|g|T12"), api.VAccepted)
	drain(t, e, 12)
	a := api.Window{ID: 0, Tallies: []api.Tally{{Kind: api.KCounter, Name: "a", Count: 2, Sum: wide.Of(3000000)}}}
	b := api.Window{ID: 1, Tallies: []api.Tally{{Kind: api.KGauge, Name: "b", Count: 1, Sum: wide.Of(1000000)}}}
	if l := e.Windows(); !equal(l, []api.Window{a}) {
		t.Errorf("Windows %v", l)
	}
	feed(t, e, shut)
	if e.View().Done {
		t.Error("Done ahead of the end")
	}
	drain(t, e, 10)
	view(t, e, api.View{In: []int{0, 0}, Out: []int{0, 0}, Steps: 26, Done: true})
	if l := e.Windows(); !equal(l, []api.Window{a, b}) {
		t.Errorf("Windows %v", l)
	}
	e.Windows()[0].Tallies[0].Name = "z"
	if l := e.Windows(); !equal(l, []api.Window{a, b}) || e.Ledger() != (api.Ledger{Lines: 3, Accepted: 3}) {
		t.Error("what is handed out is shared")
	}
	if v, err := e.Feed(api.Input{Kind: api.InTick}); len(v) != 0 || err != api.ErrShut {
		t.Errorf("Feed behind the end: %d", err)
	}
}

func TestP15_4_Looks(t *testing.T) {
	c := usual
	c.Shards, c.Queue = 1, 3
	e := made(t, c)
	feed(t, e, packet("s", strings.Repeat("t:1|ms|T5\ns:x|s|T5\n", 4)), 1, 1, 1, 1, 1, 1, 1, 1)
	for i := range 3 {
		view(t, e, api.View{Pending: 8 - i, In: []int{i}, Out: []int{0}, Steps: i})
		e.Step(0)
	}
	view(t, e, api.View{Pending: 5, In: []int{3}, Out: []int{0}, Steps: 3})
	e.Step(0)
	e.Step(0)
	view(t, e, api.View{Pending: 4, In: []int{3}, Out: []int{0}, Steps: 5})
	feed(t, e, shut)
	drain(t, e, 11+4+2)
	l := e.Windows()
	l[0].Tallies[0].Samples[0], l[0].Tallies[1].Members[0] = 7, "z"
	again := e.Windows()
	if again[0].Tallies[0].Samples[0] != 1000000 || again[0].Tallies[1].Members[0] != "x" {
		t.Error("what is handed out is shared")
	}
}

func TestP15_1_2_Errors(t *testing.T) {
	if e, err := engine.New(api.Config{}); e != nil || err != api.ErrConfig {
		t.Errorf("New: %d", err)
	}
	good := made(t, usual)
	before := good.View()
	if v, err := good.Feed(api.Input{Kind: 7}); len(v) != 0 || err != api.ErrInput || !equal(good.View(), before) {
		t.Errorf("Feed: %d", err)
	}
	for _, e := range []*engine.Engine{nil, {}} {
		v, err := e.Feed(shut)
		if len(v) != 0 || err != api.ErrNil || e.Step(0) != -1 || e.Drain() != 0 || len(e.Ready()) != 0 || len(e.Windows()) != 0 || e.Ledger() != (api.Ledger{}) || !equal(e.View(), api.View{}) {
			t.Error("an engine that was not made")
		}
	}
}

func TestP15_3_4_Steps(t *testing.T) {
	// The shards of a and b are 0 and 1 of two: Hash("a") is even.
	e := made(t, usual)
	feed(t, e, packet("s", "a:1|c|T5\na:2|c|T6\nb:1|c|T7\nb:1|c|T15"), 1, 1, 1, 1)
	step := func(pick, want int, ready ...int) {
		t.Helper()
		if got := e.Step(pick); got != want || !slices.Equal(e.Ready(), ready) {
			t.Errorf("Step(%d) = %d, Ready %v; want %d, %v", pick, got, e.Ready(), want, ready)
		}
	}
	step(0, 0, 1)                // a waits in the in of shard 0, which is full
	step(5, 1, 0)                // shard 0 has it
	step(-1, 0, 0, 1)            // the second a, and b may go on
	step(2, 0, 1, 2)             // b is in shard 1
	step(-1, 2, 0, 1)            // the last of two
	step(math.MinInt64, 0, 1, 2) // the second b
	step(math.MaxInt64, 2, 1)    // and then the mark waits for shard 0
	view(t, e, api.View{Pending: 1, In: []int{1, 0}, Out: []int{0, 0}, Steps: 7})
	step(0, 1, 0)
	step(0, 0, 0, 1) // shard 0 has the mark: it is pending still
	view(t, e, api.View{Pending: 1, In: []int{1, 0}, Out: []int{0, 0}, Steps: 9})
	step(1, 1, 0, 1) // window and mark wait there
	step(1, 1, 0, 3) // the window is out, out is full
	step(0, 0, 2, 3)
	view(t, e, api.View{In: []int{0, 1}, Out: []int{1, 0}, Steps: 12})
	step(1, 3, 1, 2)
	step(0, 1, 2, 3)
	step(-1, 3, 2)
	if len(e.Windows()) != 0 {
		t.Error("shard 1 has not told its mark")
	}
	drain(t, e, 5)
	if l := e.Windows(); len(l) != 1 || len(l[0].Tallies) != 2 {
		t.Errorf("Windows %v", l)
	}
}

// randomInputs are datagrams and ticks of a few sources.
func randomInputs(r *rand.Rand) []api.Input {
	var l []api.Input
	now := int64(0)
	for range 25 {
		if r.Intn(6) == 0 {
			now += r.Int63n(12)
			l = append(l, api.Input{Kind: api.InTick, Now: now})
			continue
		}
		var b strings.Builder
		for range r.Intn(5) {
			fmt.Fprintf(&b, []string{"%[1]c:%[2]d|c|T%[3]d\n", "%[1]c:+%[2]d|g|T%[3]d\n", "%[1]c:%[2]d|ms|T%[3]d\n", "%[1]c:%[2]d|s\n", "x\n"}[r.Intn(5)], 'a'+r.Intn(6), r.Intn(9), now+r.Int63n(30))
		}
		l = append(l, packet(string(rune('p'+r.Intn(3))), b.String()))
	}
	if r.Intn(2) == 0 {
		l = append(l, shut)
	}
	return l
}

// meaning are the windows of the gate's items taken by one shard, how many steps they are for n shards, and the ledger.
func meaning(c api.Config, in []api.Input) ([]api.Window, int, api.Ledger, int64) {
	g, _ := admit.New(c)
	w := shard.NewWorker()
	var l []api.Window
	steps := 0
	for _, x := range in {
		_, items, _ := g.Take(x)
		for _, it := range items {
			if it.Kind == api.IEvent {
				steps += 2
			} else {
				steps += 4 * c.Shards
			}
			results, _ := w.Take(it)
			for _, r := range results {
				if r.Kind == api.RWindow {
					l = append(l, api.Window{ID: r.Window, Tallies: r.Tallies})
					steps += 2 * shardsOf(r.Tallies, c.Shards)
				}
			}
		}
	}
	return l, steps, g.Ledger(), g.Closed()
}

// shardsOf is among how many shards the tallies are dealt.
func shardsOf(l []api.Tally, n int) int {
	seen := map[uint32]bool{}
	for _, t := range l {
		h := uint32(2166136261)
		for _, b := range []byte(t.Name) {
			h = (h ^ uint32(b)) * 16777619
		}
		seen[h%uint32(n)] = true
	}
	return len(seen)
}

func TestP15_5_to_7_OneMeaning(t *testing.T) {
	r := rand.New(rand.NewSource(19))
	for range 150 {
		in := randomInputs(r)
		c := usual
		c.Shards, c.Queue, c.Late, c.Ahead = 1+r.Intn(5), 1+r.Intn(3), r.Int63n(5), 20
		e := made(t, c)
		fed, steps := 0, 0
		for fed < len(in) || len(e.Ready()) > 0 {
			if fed < len(in) && r.Intn(4) == 0 {
				e.Feed(in[fed])
				fed++
			} else if e.Step(r.Int()-math.MaxInt64/2) >= 0 {
				steps++
			}
		}
		want, wantSteps, ledger, closed := meaning(c, in)
		if l := e.Windows(); !equal(l, want) || e.Ledger() != ledger {
			t.Fatalf("windows %v; want %v", l, want)
		}
		v := e.View()
		if v.Pending != 0 || slices.Max(v.In) != 0 || slices.Max(v.Out) != 0 || steps != wantSteps || v.Steps != steps {
			t.Fatalf("%d steps; want %d; View %+v", steps, wantSteps, v)
		}
		for i, w := range want {
			if w.ID > closed || len(w.Tallies) == 0 || i > 0 && w.ID <= want[i-1].ID {
				t.Fatalf("window %d, closed up to %d", w.ID, closed)
			}
		}
	}
}
