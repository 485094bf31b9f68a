package flush_test

import (
	"math"
	"math/rand"
	"slices"
	"strconv"
	"strings"
	"testing"

	"tumbler/api"
	"tumbler/flush"
	"tumbler/name"
	"tumbler/timer"
	"tumbler/wide"
)

func rising(n int) []int64 {
	l := make([]int64, n)
	for i := range l {
		l[i] = int64(i + 1)
	}
	return l
}

func TestP10_1_Check(t *testing.T) {
	for _, f := range []api.Flush{{}, {Prefix: "a.b"}, {Percents: []int64{-100000000, -1, 1, 100000000}}, {Bounds: []int64{0, math.MaxInt64}}, {Percents: rising(16), Bounds: rising(32)}} {
		if err := flush.Check(f); err != api.OK {
			t.Errorf("Check(%v) = %d", f, err)
		}
	}
	for _, f := range []api.Flush{{Prefix: "a."}, {Prefix: "a b"}, {Percents: []int64{0}}, {Percents: []int64{-5, 0, 5}}, {Percents: []int64{2, 1}}, {Percents: []int64{1, 1}}, {Percents: []int64{100000001}}, {Percents: []int64{-100000001}},
		{Percents: []int64{math.MinInt64}}, {Percents: rising(17)}, {Bounds: []int64{-1}}, {Bounds: []int64{1, 1}}, {Bounds: []int64{2, 1}}, {Bounds: rising(33)}, {Bounds: []int64{math.MinInt64}}} {
		l, err := flush.Records(api.Window{Tallies: []api.Tally{{}}}, 0, f)
		if flush.Check(f) != api.ErrFlush || err != api.ErrFlush || len(l) != 0 {
			t.Errorf("Check(%v) = %d, Records %d", f, flush.Check(f), err)
		}
	}
}

func counter(n string, sum int64) api.Tally {
	return api.Tally{Kind: api.KCounter, Name: n, Count: 1, Sum: wide.Of(sum)}
}

func records(t *testing.T, id, width int64, f api.Flush, l ...api.Tally) []api.Record {
	t.Helper()
	r, err := flush.Records(api.Window{ID: id, Tallies: l}, width, f)
	if err != api.OK {
		t.Fatalf("Records: %d", err)
	}
	return r
}

// lines are records as a text of path and value, and their time.
func lines(l []api.Record) string {
	var out []string
	for _, r := range l {
		out = append(out, r.Path+" "+wide.Print(r.Value)+" "+strconv.FormatInt(r.Time, 10))
	}
	return strings.Join(out, "\n")
}

func want(t *testing.T, l []api.Record, all ...string) {
	t.Helper()
	if got := lines(l); got != strings.Join(all, "\n") {
		t.Errorf("records:\n%s\nwant:\n%s", got, strings.Join(all, "\n"))
	}
}

func TestP10_2_Examples(t *testing.T) {
	want(t, records(t, 3, 10, api.Flush{Prefix: "stats"}, counter("a", 25000000)), "stats.counters.a.count 25000000 30", "stats.counters.a.rate 2500000 30")
	want(t, records(t, -1, 10, api.Flush{}, api.Tally{Kind: api.KSet, Name: "s", Members: []string{"x", "y"}}, api.Tally{Kind: api.KGauge, Name: "g", Sum: wide.Of(-5)}, counter("a", -25)),
		"counters.a.count -25 -10", "counters.a.rate -2 -10", "gauges.g -5 -10", "sets.s.count 2000000 -10")
	tally := api.Tally{Kind: api.KTimer, Name: "t", Samples: []int64{1000000, 3000000}, Weight: wide.Of(2000000), Sum: wide.Of(77)}
	want(t, records(t, 0, 10, api.Flush{Percents: []int64{50000000}, Bounds: []int64{2000000}}, tally),
		"timers.t.count 2000000 0", "timers.t.count_50 1000000 0", "timers.t.histogram.bin_2 1000000 0", "timers.t.histogram.bin_inf 1000000 0", "timers.t.lower 1000000 0", "timers.t.mean 2000000 0",
		"timers.t.mean_50 1000000 0", "timers.t.median 2000000 0", "timers.t.rate 200000 0", "timers.t.std 1000000 0", "timers.t.sum 4000000 0", "timers.t.sum_50 1000000 0", "timers.t.upper 3000000 0", "timers.t.upper_50 1000000 0")
	l := lines(records(t, 0, 10, api.Flush{Percents: []int64{-10000000, 99500000}, Bounds: []int64{0, 500000}}, tally))
	for _, s := range []string{"timers.t.lower_top10 3000000", "timers.t.mean_top10 3000000", "timers.t.count_top10 1000000", "timers.t.sum_top10 3000000", "timers.t.upper_99_5 3000000", "timers.t.sum_99_5 4000000",
		"timers.t.histogram.bin_0 0", "timers.t.histogram.bin_0_5 0", "timers.t.histogram.bin_inf 2000000"} {
		if !strings.Contains(l, s+" 0\n") && !strings.HasSuffix(l, s+" 0") {
			t.Errorf("no %q in\n%s", s, l)
		}
	}
	if strings.Contains(l, "upper_top10") || strings.Contains(l, "lower_99_5") {
		t.Errorf("the wrong edges in\n%s", l)
	}
	if l := records(t, 5, 10, api.Flush{}); len(l) != 0 {
		t.Errorf("records of nothing: %v", l)
	}
}

func TestP10_2_Errors(t *testing.T) {
	long := strings.Repeat("a", 200)
	timerOf := func(l ...int64) api.Tally { return api.Tally{Kind: api.KTimer, Name: "t", Samples: l} }
	for _, c := range []struct {
		id, width int64
		prefix    string
		l         []api.Tally
		want      api.Errno
	}{
		{3, 0, "", nil, api.ErrWidth}, {3, api.MaxWidth + 1, "", []api.Tally{{}}, api.ErrWidth}, {1 << 62, 10, "", []api.Tally{{}}, api.ErrTime}, {0, 1, "", []api.Tally{{Name: ""}}, api.ErrKind}, {0, 1, "", []api.Tally{{Kind: 5, Name: "a"}}, api.ErrKind},
		{0, 1, "", []api.Tally{counter("a b", 1)}, api.ErrName}, {0, 1, "", []api.Tally{counter("", 1)}, api.ErrName}, {0, 1, "", []api.Tally{counter("a", 1), counter("a", 2)}, api.ErrTwice}, {0, 1, "", []api.Tally{counter("", 1), counter("", 2)}, api.ErrName},
		{0, 1, "", []api.Tally{timerOf()}, api.ErrNone}, {0, 1, "", []api.Tally{timerOf(-1)}, api.ErrSample}, {0, 1, "", []api.Tally{timerOf(1), timerOf()}, api.ErrTwice}, {0, 1, "", []api.Tally{counter(long, 1)}, api.ErrLong},
		{0, 1, long[:190], []api.Tally{counter("a", 1)}, api.ErrLong}, {0, 1, "a.b.c.d.e.f.g.h.i.j.k.l.m", []api.Tally{counter("a.b", 1)}, api.ErrLong}, {0, 1, "", []api.Tally{counter(long, 1), {}}, api.ErrLong}, {0, 1, "", []api.Tally{{}, counter(long, 1)}, api.ErrKind},
		{0, 1, "", []api.Tally{{Kind: api.KTimer, Name: long}}, api.ErrNone}, {0, 1, long[:200-len(".counters.a.count")], []api.Tally{counter("a", 1)}, 0}, {0, 1, long[:200-len(".counters.a.count")+1], []api.Tally{counter("a", 1)}, api.ErrLong},
		{0, 1, "a.b.c.d.e.f.g.h.i.j.k.l.m", []api.Tally{counter("a", 1)}, 0}, {math.MinInt64, 1, "", []api.Tally{counter("a", 1), {Kind: api.KGauge, Name: "a"}}, 0},
	} {
		if l, err := flush.Records(api.Window{ID: c.id, Tallies: c.l}, c.width, api.Flush{Prefix: c.prefix}); err != c.want || err != 0 && len(l) != 0 {
			t.Errorf("Records(%v, %d, %q) = %v, %d; want %d", c.l, c.width, c.prefix, l, err, c.want)
		}
	}
}

func randomTallies(r *rand.Rand) []api.Tally {
	var l []api.Tally
	for _, i := range r.Perm(12) {
		x := api.Tally{Kind: api.Kind(i%4 + 1), Name: string(rune('a' + i/4)), Sum: wide.Of(r.Int63n(1000) - 500), Weight: wide.Of(r.Int63n(1000)), Members: make([]string, r.Intn(3))}
		for range 1 + r.Intn(5) {
			x.Samples = append(x.Samples, r.Int63n(50))
		}
		l = append(l, x)
	}
	return l
}

func TestP10_3_to_6(t *testing.T) {
	r := rand.New(rand.NewSource(14))
	f := api.Flush{Prefix: "p.q", Percents: []int64{-100000000, -50000000, 33333333, 100000000}, Bounds: []int64{0, 3, 20, 40}}
	for range 300 {
		l, width := randomTallies(r), 1+r.Int63n(20)
		all := records(t, 7, width, f, l...)
		by := map[string]int64{}
		for i, x := range all {
			if i > 0 && x.Path <= all[i-1].Path || !name.Valid(x.Path) || !strings.HasPrefix(x.Path, "p.q.") || x.Time != 7*width {
				t.Fatalf("record %v", x)
			}
			by[x.Path], _ = wide.Small(x.Value)
		}
		n := r.Intn(len(l))
		apart := append(records(t, 7, width, f, l[:n]...), records(t, 7, width, f, l[n:]...)...)
		slices.SortFunc(apart, func(a, b api.Record) int { return strings.Compare(a.Path, b.Path) })
		if !equal(apart, all) {
			t.Fatal("a tally hangs on the others")
		}
		for _, x := range []string{"a", "b", "c"} {
			count, rate := by["p.q.counters."+x+".count"], by["p.q.counters."+x+".rate"]
			if gap := count - rate*width; gap >= width || gap <= -width || gap*count < 0 {
				t.Fatalf("count %d, rate %d, width %d", count, rate, width)
			}
			base := "p.q.timers." + x + "."
			var bins int64
			for _, b := range []string{"0", "0_000003", "0_00002", "0_00004", "inf"} {
				bins += by[base+"histogram.bin_"+b]
			}
			i := slices.IndexFunc(l, func(y api.Tally) bool { return y.Kind == api.KTimer && y.Name == x })
			stats, _ := timer.Of(l[i].Samples)
			if bins != int64(len(l[i].Samples))*api.Unit || by[base+"count_100"] != bins || by[base+"sum_100"] != by[base+"sum"] || by[base+"upper_100"] != by[base+"upper"] || by[base+"lower_top100"] != stats.Lower || by[base+"std"] != stats.Dev {
				t.Fatalf("timer %v of\n%s", l[i], lines(all))
			}
		}
	}
}
