package shard_test

import (
	"fmt"
	"math"
	"math/rand"
	"testing"

	"tumbler/api"
	"tumbler/line"
	"tumbler/shard"
	"tumbler/wide"
)

func event(id int64, s string) api.Item {
	e, _, err := line.Parse(s)
	if err != api.OK {
		panic(s)
	}
	return api.Item{Kind: api.IEvent, Window: id, Event: e}
}

func mark(id int64) api.Item { return api.Item{Kind: api.IMark, Window: id} }

var end = api.Item{Kind: api.IEnd}

func counter(n string, sum int64) api.Tally {
	return api.Tally{Kind: api.KCounter, Name: n, Count: 1, Sum: wide.Of(sum * api.Unit)}
}

func rwindow(id int64, l ...api.Tally) api.Result {
	return api.Result{Kind: api.RWindow, Window: id, Tallies: l}
}

func rmark(id int64) api.Result { return api.Result{Kind: api.RMark, Window: id} }

var rend = api.Result{Kind: api.REnd}

func work(t *testing.T, w *shard.Worker, it api.Item, want api.Errno, l ...api.Result) {
	t.Helper()
	if got, err := w.Take(it); err != want || !(len(got) == 0 && len(l) == 0) && !equal(got, l) {
		t.Errorf("Take(%v) = %v, %d; want %v, %d", it, got, err, l, want)
	}
}

func TestP14_1_Worker(t *testing.T) {
	w := shard.NewWorker()
	work(t, w, event(2, "a:1|c|T7777"), 0)
	work(t, w, event(1, "b:1|c"), 0)
	work(t, w, api.Item{Kind: api.IMark, Window: 1, Event: api.Event{Kind: 9}}, 0, rwindow(1, counter("b", 1)), rmark(1))
	work(t, w, mark(1), api.ErrShard)
	work(t, w, mark(0), api.ErrShard)
	work(t, w, event(1, "b:1|c"), api.ErrClosed)
	work(t, w, api.Item{Kind: api.IEvent, Window: 5, Event: api.Event{Name: "a"}}, api.ErrBadKind)
	work(t, w, api.Item{}, api.ErrShard)
	work(t, w, api.Item{Kind: 4}, api.ErrShard)
	work(t, w, event(5, "a:2|c"), 0)
	work(t, w, api.Item{Kind: api.IEnd, Window: 1}, 0, rwindow(2, counter("a", 1)), rwindow(5, counter("a", 2)), rend)
	work(t, w, end, api.ErrShard)
	work(t, w, event(9, "a:1|c"), api.ErrShard)
	work(t, w, mark(9), api.ErrShard)

	w = shard.NewWorker()
	work(t, w, mark(math.MinInt64), api.ErrShard)
	work(t, w, mark(math.MinInt64+1), 0, rmark(math.MinInt64+1))
	work(t, w, mark(math.MaxInt64), 0, rmark(math.MaxInt64))
	work(t, w, end, 0, rend)
	for _, w := range []*shard.Worker{nil, {}} {
		work(t, w, api.Item{}, api.ErrNil)
	}
}

func merger(t *testing.T, n int) *shard.Merger {
	t.Helper()
	m, err := shard.NewMerger(n)
	if err != api.OK || m.Done() {
		t.Fatalf("NewMerger(%d): %d", n, err)
	}
	return m
}

func merge(t *testing.T, m *shard.Merger, i int, r api.Result, want api.Errno, l ...api.Window) {
	t.Helper()
	if got, err := m.Take(i, r); err != want || !(len(got) == 0 && len(l) == 0) && !equal(got, l) {
		t.Errorf("Take(%d, %v) = %v, %d; want %v, %d", i, r, got, err, l, want)
	}
}

func out(id int64, l ...api.Tally) api.Window { return api.Window{ID: id, Tallies: l} }

func TestP14_2_to_5_Merger(t *testing.T) {
	for _, n := range []int{0, 17, -1} {
		if m, err := shard.NewMerger(n); m != nil || err != api.ErrShard {
			t.Errorf("NewMerger(%d): %d", n, err)
		}
	}
	merger(t, 16)
	m := merger(t, 2)
	merge(t, m, 0, rwindow(1, counter("a", 1)), 0)
	merge(t, m, 0, rmark(1), 0)
	merge(t, m, 1, rmark(0), 0)
	merge(t, m, 1, rmark(3), 0, out(1, counter("a", 1)))
	merge(t, m, 0, rwindow(1, counter("a", 1)), api.ErrResult)
	merge(t, m, 0, rend, 0)
	if m.Done() {
		t.Error("one shard has not ended")
	}
	merge(t, m, 1, rend, 0)
	if !m.Done() {
		t.Error("all shards have ended")
	}
	merge(t, m, 1, rmark(9), api.ErrShard)
	merge(t, m, 2, rend, api.ErrShard)
	merge(t, m, -1, rend, api.ErrShard)
	for _, m := range []*shard.Merger{nil, {}} {
		merge(t, m, 0, rend, api.ErrNil)
		if m.Done() {
			t.Error("a merger that was not made")
		}
	}
}

func TestP14_3_4_Refused(t *testing.T) {
	m := merger(t, 3)
	a, b := counter("a", 1), counter("b", 2)
	merge(t, m, 2, rwindow(3, b), 0)
	merge(t, m, 2, rwindow(3, a), api.ErrResult)
	merge(t, m, 2, rwindow(2, a), api.ErrResult)
	merge(t, m, 2, rmark(2), api.ErrResult)
	merge(t, m, 2, api.Result{Kind: 4, Window: 9}, api.ErrResult)
	merge(t, m, 2, api.Result{}, api.ErrResult)
	merge(t, m, 2, rmark(math.MinInt64), api.ErrResult)
	merge(t, m, 0, rwindow(math.MinInt64, a), api.ErrResult)
	merge(t, m, 0, rwindow(3, b), api.ErrTwice)
	merge(t, m, 0, rwindow(3, a, a), api.ErrTwice)
	merge(t, m, 0, rwindow(3, a, api.Tally{Kind: 7}), api.ErrKind)
	merge(t, m, 0, rwindow(3, b, api.Tally{Kind: 7}), api.ErrKind)
	merge(t, m, 0, rwindow(3, api.Tally{Kind: 7}, a), api.ErrKind)
	merge(t, m, 0, rwindow(2, b), 0) // what was refused has not been told
	kept := []int64{1, 2}
	timer := api.Tally{Kind: api.KTimer, Name: "t", Count: 2, Samples: kept}
	merge(t, m, 0, rwindow(3, timer, a), 0)
	kept[0] = 9
	merge(t, m, 1, rwindow(4), 0) // of no tallies nothing comes out
	for i := range 2 {
		merge(t, m, i, rmark(5), 0)
	}
	merge(t, m, 2, rmark(3), 0, out(2, b), out(3, a, b, api.Tally{Kind: api.KTimer, Name: "t", Count: 2, Samples: []int64{1, 2}}))
	merge(t, m, 2, rend, 0)
	merge(t, m, 0, rwindow(5, a), api.ErrResult)
	merge(t, m, 0, rwindow(6, a), 0)
	merge(t, m, 0, rend, 0)
	merge(t, m, 1, api.Result{Kind: api.REnd, Window: 1}, 0, out(6, a))
}

// items are random events of rising windows with marks between, and the end.
func items(r *rand.Rand) []api.Item {
	closed := int64(-1)
	var l []api.Item
	for range 80 {
		if r.Intn(8) == 0 {
			closed += 1 + r.Int63n(2)
			l = append(l, mark(closed))
			continue
		}
		s := []string{"%c:%d|c", "%c:%d|g", "%c:+%d|g", "%c:%d|ms", "%c:%d|s"}[r.Intn(5)]
		l = append(l, event(closed+1+r.Int63n(3), fmt.Sprintf(s, 'a'+r.Intn(5), r.Intn(9))))
	}
	return append(l, end)
}

func TestP14_6_to_8_AnyOrder(t *testing.T) {
	r := rand.New(rand.NewSource(18))
	for range 200 {
		l := items(r)
		n := 1 + r.Intn(4)
		var want []api.Window
		alone := shard.NewWorker()
		workers, results := make([]*shard.Worker, n), make([][]api.Result, n)
		for i := range workers {
			workers[i] = shard.NewWorker()
		}
		for _, it := range l {
			told, err := alone.Take(it)
			if err != api.OK {
				t.Fatal(err)
			}
			for _, x := range told {
				if x.Kind == api.RWindow {
					want = append(want, out(x.Window, x.Tallies...))
				}
			}
			for i, w := range workers {
				if it.Kind != api.IEvent || int(it.Event.Name[0])%n == i {
					told, _ := w.Take(it)
					results[i] = append(results[i], told...)
				}
			}
		}
		m := merger(t, n)
		bounds := make([]int64, n)
		var got []api.Window
		for !m.Done() {
			i := r.Intn(n)
			if len(results[i]) == 0 {
				continue
			}
			x := results[i][0]
			results[i] = results[i][1:]
			whole, err := m.Take(i, x)
			if err != api.OK {
				t.Fatal(err)
			}
			if x.Kind == api.RMark {
				bounds[i] = x.Window
			} else if x.Kind == api.REnd {
				bounds[i] = math.MaxInt64
			}
			for _, w := range whole {
				for _, b := range bounds {
					if w.ID > b {
						t.Fatalf("window %d above the bound %d", w.ID, b)
					}
				}
			}
			got = append(got, whole...)
		}
		if !equal(got, want) {
			t.Fatalf("%d shards: %v; want %v", n, got, want)
		}
	}
}
