package timer_test

import (
	"math"
	"math/big"
	"math/rand"
	"slices"
	"testing"

	"tumbler/api"
	"tumbler/timer"
	"tumbler/wide"
)

const max = api.MaxTimer

func TestP9_1_Rank(t *testing.T) {
	for _, c := range []struct {
		n       int
		percent int64
		want    int
		err     api.Errno
	}{{10, 90000000, 9, 0}, {10, 1, 1, 0}, {3, 50000000, 2, 0}, {1, 100000000, 1, 0}, {5, 0, 0, api.ErrPercent}, {0, 100000001, 0, api.ErrPercent}, {0, 1, 0, api.ErrNone}, {-3, 1, 0, api.ErrNone},
		{10, 90000001, 10, 0}, {5, -1, 0, api.ErrPercent}, {5, math.MinInt64, 0, api.ErrPercent}, {math.MaxInt64, 100000000, math.MaxInt64, 0}, {math.MaxInt64, 50000000, 1 << 62, 0}, {200, 500000, 1, 0}, {200, 500001, 2, 0}} {
		if r, err := timer.Rank(c.n, c.percent); r != c.want || err != c.err {
			t.Errorf("Rank(%d, %d) = %d, %d; want %d, %d", c.n, c.percent, r, err, c.want, c.err)
		}
	}
}

func TestP9_2_Merge(t *testing.T) {
	for _, c := range []struct{ a, b, want []int64 }{
		{[]int64{1, 3}, []int64{2, 3}, []int64{1, 2, 3, 3}}, {[]int64{3, 1}, []int64{2}, []int64{2, 3, 1}}, {nil, nil, nil}, {nil, []int64{2, 1}, []int64{2, 1}}, {[]int64{2, 1}, nil, []int64{2, 1}},
		{[]int64{5, 0}, []int64{5, 9}, []int64{5, 0, 5, 9}}, {[]int64{math.MinInt64}, []int64{math.MaxInt64}, []int64{math.MinInt64, math.MaxInt64}}, {[]int64{2, 9, 1}, []int64{3, 0}, []int64{2, 3, 0, 9, 1}},
	} {
		if got := timer.Merge(c.a, c.b); !slices.Equal(got, c.want) {
			t.Errorf("Merge(%v, %v) = %v; want %v", c.a, c.b, got, c.want)
		}
	}
	a := []int64{1, 2, 3}
	timer.Merge(a[:1], []int64{9})[0] = 7
	if !slices.Equal(a, []int64{1, 2, 3}) {
		t.Error("Merge changes its arguments")
	}
}

func TestP9_3_Of(t *testing.T) {
	for _, c := range []struct {
		l    []int64
		want api.Stats
		err  api.Errno
	}{
		{[]int64{5, 1, 4}, api.Stats{Count: 3, Sum: wide.Of(10), Lower: 1, Upper: 5, Mean: 3, Median: 4, Dev: 1}, 0},
		{[]int64{1, 2}, api.Stats{Count: 2, Sum: wide.Of(3), Lower: 1, Upper: 2, Mean: 1, Median: 1}, 0},
		{[]int64{0, max}, api.Stats{Count: 2, Sum: wide.Of(max), Upper: max, Mean: max / 2, Median: max / 2, Dev: max / 2}, 0},
		{nil, api.Stats{}, api.ErrNone}, {[]int64{-1}, api.Stats{}, api.ErrSample}, {[]int64{1, max + 1}, api.Stats{}, api.ErrSample},
	} {
		if got, err := timer.Of(c.l); got != c.want || err != c.err {
			t.Errorf("Of(%v) = %+v, %d; want %+v", c.l, got, err, c.want)
		}
	}
}

func randomSamples(r *rand.Rand) []int64 {
	l := make([]int64, 1+r.Intn(12))
	most := []int64{3, 100, max + 1}[r.Intn(3)]
	for i := range l {
		l[i] = r.Int63n(most)
	}
	return l
}

// plainStats are the stats by whole numbers without bound.
func plainStats(samples []int64) api.Stats {
	l := slices.Sorted(slices.Values(samples))
	n := int64(len(l))
	sum := new(big.Int)
	for _, v := range l {
		sum.Add(sum, big.NewInt(v))
	}
	mean := new(big.Int).Div(sum, big.NewInt(n))
	squares := new(big.Int)
	for _, v := range l {
		d := new(big.Int).Sub(big.NewInt(v), mean)
		squares.Add(squares, d.Mul(d, d))
	}
	dev := squares.Sqrt(squares.Div(squares, big.NewInt(n))).Int64()
	median := l[n/2]
	if n%2 == 0 {
		median = (l[n/2-1] + l[n/2]) / 2
	}
	s, _ := wide.Parse(sum.String())
	return api.Stats{Count: int(n), Sum: s, Lower: l[0], Upper: l[n-1], Mean: mean.Int64(), Median: median, Dev: dev}
}

func TestP9_3_6_LikeWithoutBound(t *testing.T) {
	r := rand.New(rand.NewSource(12))
	for range 3000 {
		l := randomSamples(r)
		kept := slices.Clone(l)
		if got, err := timer.Of(l); err != api.OK || got != plainStats(l) || !slices.Equal(l, kept) {
			t.Fatalf("Of(%v) = %+v, %d; want %+v", l, got, err, plainStats(l))
		}
	}
	many := make([]int64, 1<<17)
	for i := range many {
		many[i] = max * int64(i%2)
	}
	if got, err := timer.Of(many); err != api.OK || got != plainStats(many) {
		t.Errorf("Of many = %+v, %d", got, err)
	}
}

func TestP9_4_Upto(t *testing.T) {
	l := []int64{5, 1, 4, 9}
	for _, c := range []struct {
		l       []int64
		percent int64
		want    api.Share
		err     api.Errno
	}{
		{l, 50000000, api.Share{Count: 2, Sum: wide.Of(5), Mean: 2, Edge: 4}, 0}, {l, -50000000, api.Share{Count: 2, Sum: wide.Of(14), Mean: 7, Edge: 5}, 0}, {l, 100000000, api.Share{Count: 4, Sum: wide.Of(19), Mean: 4, Edge: 9}, 0},
		{l, -100000000, api.Share{Count: 4, Sum: wide.Of(19), Mean: 4, Edge: 1}, 0}, {l, 1, api.Share{Count: 1, Sum: wide.Of(1), Mean: 1, Edge: 1}, 0}, {l, -1, api.Share{Count: 1, Sum: wide.Of(9), Mean: 9, Edge: 9}, 0},
		{l, 0, api.Share{}, api.ErrPercent}, {l, 100000001, api.Share{}, api.ErrPercent}, {l, -100000001, api.Share{}, api.ErrPercent}, {l, math.MinInt64, api.Share{}, api.ErrPercent},
		{nil, 0, api.Share{}, api.ErrPercent}, {nil, 5, api.Share{}, api.ErrNone}, {[]int64{-1}, 0, api.Share{}, api.ErrSample}, {[]int64{max + 1}, 5, api.Share{}, api.ErrSample},
	} {
		if got, err := timer.Upto(c.l, c.percent); got != c.want || err != c.err {
			t.Errorf("Upto(%v, %d) = %+v, %d; want %+v, %d", c.l, c.percent, got, err, c.want, c.err)
		}
	}
	if !slices.Equal(l, []int64{5, 1, 4, 9}) {
		t.Error("Upto changes its samples")
	}
	r := rand.New(rand.NewSource(13))
	for range 2000 {
		l := randomSamples(r)
		percent := 1 + r.Int63n(100000000)
		rank, _ := timer.Rank(len(l), percent)
		s := slices.Sorted(slices.Values(l))
		low, high := plainStats(s[:rank]), plainStats(s[len(s)-rank:])
		if got, err := timer.Upto(l, percent); err != api.OK || got != (api.Share{Count: rank, Sum: low.Sum, Mean: low.Mean, Edge: low.Upper}) {
			t.Fatalf("Upto(%v, %d) = %+v", l, percent, got)
		}
		if got, err := timer.Upto(l, -percent); err != api.OK || got != (api.Share{Count: rank, Sum: high.Sum, Mean: high.Mean, Edge: high.Lower}) {
			t.Fatalf("Upto(%v, %d) = %+v", l, -percent, got)
		}
	}
}

func TestP9_5_Bins(t *testing.T) {
	bounds := make([]int64, 33)
	for i := range bounds {
		bounds[i] = int64(i)
	}
	last := make([]int, 33)
	last[32], last[3] = 2, 1
	for _, c := range []struct {
		l, bounds []int64
		want      []int
		err       api.Errno
	}{
		{[]int64{5, 1, 4, 9}, []int64{1, 5}, []int{0, 2, 2}, 0}, {nil, []int64{7}, []int{0, 0}, 0}, {[]int64{1}, nil, nil, api.ErrBounds}, {[]int64{1}, []int64{5, 5}, nil, api.ErrBounds}, {nil, []int64{5, 4}, nil, api.ErrBounds},
		{nil, []int64{-1, 4}, nil, api.ErrBounds}, {[]int64{31, 99, 2}, bounds[:32], last, 0}, {nil, bounds, nil, api.ErrBounds}, {[]int64{-1}, nil, nil, api.ErrSample}, {[]int64{0, max}, []int64{0, math.MaxInt64}, []int{0, 2, 0}, 0},
	} {
		if got, err := timer.Bins(c.l, c.bounds); !slices.Equal(got, c.want) || err != c.err {
			t.Errorf("Bins(%v, %v) = %v, %d; want %v, %d", c.l, c.bounds, got, err, c.want, c.err)
		}
	}
}
