package crew_test

import (
	"fmt"
	"math/rand"
	"runtime"
	"strings"
	"testing"

	"tumbler/admit"
	"tumbler/api"
	"tumbler/crew"
	"tumbler/engine"
	"tumbler/line"
	"tumbler/micro"
	"tumbler/shard"
	"tumbler/wide"
)

var usual = api.Config{Width: 10, Late: 5, Ahead: 100, Idle: 60, Sources: 2, Series: 2, Gauges: 1, Shards: 1, Queue: 1}

func packet(source, data string) api.Input {
	return api.Input{Kind: api.InPacket, Source: source, Data: []byte(data)}
}

var shut = api.Input{Kind: api.InShut}

func TestP16_Examples(t *testing.T) {
	in := []api.Input{packet("p", "a:1|c|T12\na:2|c|T13\na:1|c|T27")}
	first := api.Window{ID: 1, Tallies: []api.Tally{{Kind: api.KCounter, Name: "a", Count: 2, Sum: wide.Of(3000000)}}}
	second := api.Window{ID: 2, Tallies: []api.Tally{{Kind: api.KCounter, Name: "a", Count: 1, Sum: wide.Of(1000000)}}}
	for shards := 1; shards <= 16; shards++ {
		c := usual
		c.Shards = shards
		v, w, l, err := crew.Run(c, in)
		if err != api.OK || !equal(v, [][]api.Verdict{{1, 1, 1}}) || !equal(w, []api.Window{first}) || l != (api.Ledger{Lines: 3, Accepted: 3}) {
			t.Errorf("Run: %v, %v, %v, %d", v, w, l, err)
		}
		v, w, _, _ = crew.Run(c, append(in, api.Input{Kind: 9}, shut, shut, packet("p", "a:1|c")))
		if !equal(w, []api.Window{first, second}) || len(v) != 5 || len(v[1])+len(v[2])+len(v[3])+len(v[4]) != 0 {
			t.Errorf("with an end: %v, %v", v, w)
		}
	}
	v, w, l, err := crew.Run(usual, nil)
	if len(v) != 0 || len(w) != 0 || l != (api.Ledger{}) || err != api.OK {
		t.Error("no inputs")
	}
}

func TestP16_1_Config(t *testing.T) {
	v, w, l, err := crew.Run(api.Config{}, []api.Input{shut})
	if len(v) != 0 || len(w) != 0 || l != (api.Ledger{}) || err != api.ErrConfig {
		t.Errorf("Run: %d", err)
	}
}

// randomInputs are datagrams and ticks of a few sources; some that the gate refuses.
func randomInputs(r *rand.Rand) []api.Input {
	var l []api.Input
	now := int64(0)
	for range 30 {
		switch r.Intn(8) {
		case 0:
			now += r.Int63n(12)
			l = append(l, api.Input{Kind: api.InTick, Now: now})
			continue
		case 1:
			l = append(l, api.Input{Kind: api.InTick, Now: -1})
			continue
		}
		var b strings.Builder
		for range r.Intn(9) {
			fmt.Fprintf(&b, []string{"%[1]c:%[2]d|c|@0.3|T%[3]d\n", "%[1]c:+%[2]d|g|T%[3]d\n", "%[1]c:%[2]d|ms|T%[3]d\n", "%[1]c:%[2]d|s\n", "x\n"}[r.Intn(5)], 'a'+r.Intn(6), r.Intn(9), now+r.Int63n(30))
		}
		l = append(l, packet(string(rune('p'+r.Intn(3))), b.String()))
	}
	if r.Intn(2) == 0 {
		l = append(l, shut)
	}
	return l
}

// meaning are verdicts, windows and ledger by one gate and one worker.
func meaning(c api.Config, in []api.Input) ([][]api.Verdict, []api.Window, api.Ledger) {
	g, _ := admit.New(c)
	w := shard.NewWorker()
	var verdicts [][]api.Verdict
	var l []api.Window
	for _, x := range in {
		v, items, _ := g.Take(x)
		verdicts = append(verdicts, v)
		for _, it := range items {
			results, _ := w.Take(it)
			for _, r := range results {
				if r.Kind == api.RWindow {
					l = append(l, api.Window{ID: r.Window, Tallies: r.Tallies})
				}
			}
		}
	}
	return verdicts, l, g.Ledger()
}

func TestP16_2_to_8(t *testing.T) {
	r := rand.New(rand.NewSource(20))
	before := runtime.NumGoroutine()
	for range 120 {
		in := randomInputs(r)
		c := api.Config{Width: 10, Late: r.Int63n(5), Ahead: 20, Idle: 20, Sources: 3, Series: 9, Gauges: 4, Shards: 1, Queue: 1}
		verdicts, windows, ledger := meaning(c, in)
		for range 4 {
			c.Shards, c.Queue = 1+r.Intn(16), 1+r.Intn(4)
			v, w, l, err := crew.Run(c, in)
			if err != api.OK || !equal(v, verdicts) || !equal(w, windows) || l != ledger {
				t.Fatalf("Run: %v, %v, %d; want %v, %v", v, w, err, verdicts, windows)
			}
			n := r.Intn(len(in) + 1)
			v, w, _, _ = crew.Run(c, in[:n])
			if len(v) != n || n > 0 && !equal(v, verdicts[:n]) || len(w) > len(windows) || len(w) > 0 && !equal(w, windows[:len(w)]) {
				t.Fatalf("the first %d: %v, %v", n, v, w)
			}
		}
		for i, w := range windows {
			if len(w.Tallies) == 0 || i > 0 && w.ID <= windows[i-1].ID {
				t.Fatal("windows rise, and have tallies")
			}
		}
		e, _ := engine.New(c)
		for _, x := range in {
			e.Feed(x)
			e.Step(r.Int())
		}
		e.Drain()
		if !equal(e.Windows(), windows) || e.Ledger() != ledger {
			t.Fatal("the engine has other windows")
		}
		if in[len(in)-1].Kind == api.InShut {
			checkSums(t, in, verdicts, windows)
		}
	}
	for range 10000 { // one that is done may need a moment to go
		if runtime.NumGoroutine() <= before {
			break
		}
		runtime.Gosched()
	}
	if n := runtime.NumGoroutine(); n > before {
		t.Errorf("%d goroutines are left", n-before)
	}
}

// checkSums holds what all windows tell of counters against their accepted lines.
func checkSums(t *testing.T, in []api.Input, verdicts [][]api.Verdict, windows []api.Window) {
	t.Helper()
	sums, counts := map[string]api.Wide{}, map[string]int{}
	for i, x := range in {
		for j, v := range verdicts[i] {
			e, _, _ := line.Parse(strings.Split(string(x.Data), "\n")[j])
			if v == api.VAccepted && e.Kind == api.KCounter {
				n, _ := micro.Scale(e.Value, e.Rate)
				sums[e.Name], _ = wide.Add(sums[e.Name], wide.Of(n))
				counts[e.Name]++
			}
		}
	}
	for _, w := range windows {
		for _, x := range w.Tallies {
			if x.Kind == api.KCounter {
				sums[x.Name], _ = wide.Sub(sums[x.Name], x.Sum)
				counts[x.Name] -= x.Count
			}
		}
	}
	for n := range sums {
		if sums[n] != (api.Wide{}) || counts[n] != 0 {
			t.Fatalf("counter %q: %v and %d are lost", n, sums[n], counts[n])
		}
	}
}
