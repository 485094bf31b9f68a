package admit_test

import (
	"fmt"
	"math"
	"math/rand"
	"reflect"
	"slices"
	"strings"
	"testing"

	"tumbler/admit"
	"tumbler/api"
	"tumbler/line"
)

var small = api.Config{Width: 10, Late: 5, Ahead: 100, Idle: 60, Sources: 2, Series: 2, Gauges: 1, Shards: 1, Queue: 1}

func changed(change func(*api.Config)) api.Config {
	c := small
	change(&c)
	return c
}

func gate(t *testing.T, c api.Config) *admit.Gate {
	t.Helper()
	g, err := admit.New(c)
	if err != api.OK || g.Closed() != -1 || g.Ledger() != (api.Ledger{}) {
		t.Fatalf("New: %d", err)
	}
	return g
}

func packet(source, data string) api.Input {
	return api.Input{Kind: api.InPacket, Source: source, Data: []byte(data)}
}

func tick(now int64) api.Input { return api.Input{Kind: api.InTick, Now: now} }

var shut = api.Input{Kind: api.InShut}

// mark and event are items; an event's line has its second.
func mark(id int64) api.Item { return api.Item{Kind: api.IMark, Window: id} }

func event(id int64, s string) api.Item {
	e, _, err := line.Parse(s)
	if err != api.OK || !e.Timed {
		panic(s)
	}
	return api.Item{Kind: api.IEvent, Window: id, Event: e}
}

func take(t *testing.T, g *admit.Gate, in api.Input, verdicts string, items ...api.Item) {
	t.Helper()
	v, l, err := g.Take(in)
	var told strings.Builder
	for _, x := range v {
		told.WriteByte("?amfslrg"[x])
	}
	if err != api.OK || told.String() != verdicts || !(len(l) == 0 && len(items) == 0) && !equal(l, items) {
		t.Errorf("Take(%q %q) = %q, %v, %d; want %q, %v", in.Source, in.Data, told.String(), l, err, verdicts, items)
	}
}

func refused(t *testing.T, g *admit.Gate, in api.Input, want api.Errno) {
	t.Helper()
	if v, l, err := g.Take(in); len(v) != 0 || len(l) != 0 || err != want {
		t.Errorf("Take(%v) = %v, %v, %d; want %d", in, v, l, err, want)
	}
}

func TestP12_1_Check(t *testing.T) {
	most := api.Config{Width: api.MaxWidth, Late: api.MaxStamp, Ahead: api.MaxStamp, Idle: api.MaxStamp, Sources: api.MaxSources, Series: api.MaxSeries, Gauges: api.MaxSeries, Shards: api.MaxShards, Queue: api.MaxQueue}
	for _, c := range []api.Config{small, most, {Width: 1, Idle: 1, Sources: 1, Series: 1, Gauges: 1, Shards: 1, Queue: 1}} {
		if admit.Check(c) != api.OK {
			t.Errorf("Check(%v)", c)
		}
		gate(t, c)
	}
	// Each number is put one beyond its bounds, and far beyond.
	for i := range reflect.TypeOf(small).NumField() {
		least := int64(1)
		if name := reflect.TypeOf(small).Field(i).Name; name == "Late" || name == "Ahead" {
			least = 0
		}
		for _, n := range []int64{least - 1, reflect.ValueOf(most).Field(i).Int() + 1, math.MinInt64, math.MaxInt64} {
			c := small
			reflect.ValueOf(&c).Elem().Field(i).SetInt(n)
			if g, err := admit.New(c); g != nil || err != api.ErrConfig || admit.Check(c) != api.ErrConfig {
				t.Errorf("New(%v): %d", c, err)
			}
		}
	}
}

func TestP12_2_Errors(t *testing.T) {
	g := gate(t, small)
	refused(t, g, api.Input{}, api.ErrInput)
	refused(t, g, api.Input{Kind: 4}, api.ErrInput)
	refused(t, g, api.Input{Kind: -1}, api.ErrInput)
	refused(t, g, packet("p", strings.Repeat("\n", 65537)), api.ErrInput)
	take(t, g, packet("p", strings.Repeat("\n", 65536)), "")
	take(t, g, tick(5), "")
	refused(t, g, tick(4), api.ErrInput)
	refused(t, g, tick(-1), api.ErrInput)
	refused(t, g, tick(api.MaxStamp+1), api.ErrInput)
	take(t, g, tick(5), "")
	take(t, g, api.Input{Kind: api.InPacket, Source: "p", Data: []byte("a:1|c"), Now: -7}, "a", event(0, "a:1|c|T5"))
	take(t, g, api.Input{Kind: api.InTick, Data: make([]byte, 70000), Now: api.MaxStamp}, "")
	take(t, g, api.Input{Kind: api.InShut, Data: make([]byte, 70000), Now: -1}, "", api.Item{Kind: api.IEnd})
	if g.Closed() != 109951162777 {
		t.Errorf("Closed %d behind the end", g.Closed())
	}
	for _, in := range []api.Input{shut, tick(api.MaxStamp), packet("p", ""), {}} {
		refused(t, g, in, api.ErrShut)
	}
	for _, g := range []*admit.Gate{nil, {}} {
		refused(t, g, api.Input{}, api.ErrNil)
		if g.Closed() != 0 || g.Ledger() != (api.Ledger{}) {
			t.Error("a gate that was not made")
		}
	}
}

func TestP12_3_to_6_Examples(t *testing.T) {
	// With the chapter's Idle of 60 the tick at 150 lets go of p, which was heard at 0 (P12.4): then q alone is there.
	g := gate(t, small)
	take(t, g, packet("p", "a:1|c|T12\na:1|c|T27\n"), "aa", event(1, "a:1|c|T12"), event(2, "a:1|c|T27"), mark(1))
	take(t, g, tick(150), "")
	take(t, g, packet("q", "b:1|c|T200"), "a", event(20, "b:1|c|T200"), mark(18))
	take(t, g, packet("r", "b:1|c|T200"), "a", event(20, "b:1|c|T200"))

	g = gate(t, changed(func(c *api.Config) { c.Idle = 200 }))
	take(t, g, packet("p", "a:1|c|T12"), "a", event(1, "a:1|c|T12"))
	take(t, g, packet("p", "a:1|c|T27\n"), "a", event(2, "a:1|c|T27"), mark(1))
	if g.Closed() != 1 {
		t.Errorf("Closed %d", g.Closed())
	}
	take(t, g, packet("p", "a:1|c|T19"), "l")
	take(t, g, packet("q", "b:1|c|T200"), "f")
	take(t, g, tick(150), "")
	take(t, g, packet("q", "b:1|c|T200"), "a", event(20, "b:1|c|T200"))
	take(t, g, packet("r", "b:1|c|T200\nx"), "sm")
	if l := g.Ledger(); l != (api.Ledger{Lines: 7, Accepted: 3, Malformed: 1, Future: 1, Source: 1, Late: 1}) {
		t.Errorf("Ledger %+v", l)
	}

	g = gate(t, small)
	take(t, g, packet("p", "x\r\n\na:1|c\nb:1|c\nc:1|c\na:2|c|T0\n"), "maara", event(0, "a:1|c|T0"), event(0, "b:1|c|T0"), event(0, "a:2|c|T0"))
	g = gate(t, small)
	take(t, g, packet("p", "g:1|g\nh:1|g\nh:1|c\ng:+1|g\ni:1|g"), "agaar", event(0, "g:1|g|T0"), event(0, "h:1|c|T0"), event(0, "g:+1|g|T0"))
	if l := g.Ledger(); l != (api.Ledger{Lines: 5, Accepted: 3, Series: 1, Gauge: 1}) {
		t.Errorf("Ledger %+v", l)
	}
	take(t, g, packet("p", "h:1|g|T50"), "g", mark(3)) // a refused line is heard, and its mark stands where it would
}

func TestP12_3_Edges(t *testing.T) {
	g := gate(t, changed(func(c *api.Config) { c.Late = 0 }))
	take(t, g, packet("p", "a:1|c|T100\na:1|c|T101"), "af", event(10, "a:1|c|T100"), mark(9))
	take(t, g, packet("p", "a:1|c|T99\nb:1|c|T100"), "la", event(10, "b:1|c|T100"))
	take(t, g, tick(59), "")
	take(t, g, packet("q", "a:1|c"), "l") // it is heard, and the mark does not fall
	take(t, g, packet("q", "a:1|c|T150"), "a", event(15, "a:1|c|T150"))
	take(t, g, tick(60), "", mark(14)) // p is let go, q alone is left
	take(t, g, packet("p", "a:1|c|T160\nz"), "am", event(16, "a:1|c|T160"))
	take(t, g, packet("q", "a:1|c|T149\na:1|c|T160"), "la", event(16, "a:1|c|T160"), mark(15))
	// What a line says that is not heard moves nothing: else the first would have let r in.
	g = gate(t, changed(func(c *api.Config) { c.Sources = 1 }))
	take(t, g, packet("r", "x\na:1|c|T500"), "mf")
	take(t, g, packet("p", "a:1|c|T9"), "a", event(0, "a:1|c|T9"))
	take(t, g, packet("r", "a:1|c|T99"), "s")
	take(t, g, packet("p", "a:1|c|T26"), "a", event(2, "a:1|c|T26"), mark(1))
}

// randomInputs are datagrams and ticks of a few sources.
func randomInputs(r *rand.Rand, n int) []api.Input {
	var l []api.Input
	now := int64(0)
	for range n {
		if r.Intn(6) == 0 {
			now += r.Int63n(12)
			l = append(l, tick(now))
			continue
		}
		var b strings.Builder
		for range r.Intn(5) {
			fmt.Fprintf(&b, []string{"%[1]c:%[2]d|c", "%[1]c:%[2]d|g", "%[1]c:%[2]d|c|T%[3]d", "%[1]c:%[2]d|g|T%[3]d", "%[1]c%[2]d"}[r.Intn(5)], 'a'+r.Intn(4), r.Intn(9), now+r.Int63n(30)-10)
			b.WriteByte('\n')
		}
		l = append(l, packet(string(rune('p'+r.Intn(3))), b.String()))
	}
	return l
}

func TestP12_7_to_10(t *testing.T) {
	r := rand.New(rand.NewSource(16))
	c := changed(func(c *api.Config) { c.Ahead, c.Idle, c.Gauges = 15, 8, 2 })
	for range 400 {
		whole, single := gate(t, c), gate(t, c)
		var all, one []api.Item
		var verdicts, apart []api.Verdict
		for _, in := range randomInputs(r, 40) {
			v, l, err := whole.Take(in)
			if err != api.OK {
				t.Fatalf("Take: %d", err)
			}
			all, verdicts = append(all, l...), append(verdicts, v...)
			if in.Kind == api.InTick {
				_, l, _ := single.Take(in)
				one = append(one, l...)
			}
			for s := range strings.SplitSeq(string(in.Data), "\n") {
				v, l, _ := single.Take(packet(in.Source, s))
				apart, one = append(apart, v...), append(one, l...)
			}
		}
		if !slices.Equal(verdicts, apart) || !slices.Equal(all, one) || whole.Ledger() != single.Ledger() || whole.Closed() != single.Closed() {
			t.Fatal("a datagram's lines one by one have other answers")
		}
		checkItems(t, c, all)
		var counts [8]int
		for _, v := range verdicts {
			counts[v]++
		}
		want := api.Ledger{Lines: len(verdicts), Accepted: counts[1], Malformed: counts[2], Future: counts[3], Source: counts[4], Late: counts[5], Series: counts[6], Gauge: counts[7]}
		events := 0
		for _, it := range all {
			if it.Kind == api.IEvent {
				events++
			}
		}
		if l := whole.Ledger(); l != want || events != counts[1] {
			t.Fatalf("Ledger %+v of %v", l, counts)
		}
	}
}

// checkItems holds items against marks and caps.
func checkItems(t *testing.T, c api.Config, items []api.Item) {
	t.Helper()
	closed := int64(-1)
	metrics, gauges := map[int64]map[string]bool{}, map[string]bool{}
	for _, it := range items {
		switch it.Kind {
		case api.IMark:
			if it.Window <= closed || it.Event != (api.Event{}) {
				t.Fatalf("mark %v behind %d", it, closed)
			}
			closed = it.Window
		case api.IEvent:
			if it.Window <= closed || it.Window != it.Event.Time/c.Width || !it.Event.Timed {
				t.Fatalf("event %v behind %d", it, closed)
			}
			if metrics[it.Window] == nil {
				metrics[it.Window] = map[string]bool{}
			}
			metrics[it.Window][fmt.Sprint(it.Event.Kind, it.Event.Name)] = true
			if it.Event.Kind == api.KGauge {
				gauges[it.Event.Name] = true
			}
			if len(metrics[it.Window]) > c.Series || len(gauges) > c.Gauges {
				t.Fatal("more than the caps")
			}
		}
	}
}
