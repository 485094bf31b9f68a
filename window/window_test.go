package window_test

import (
	"math"
	"math/big"
	"math/rand"
	"slices"
	"testing"

	"tumbler/api"
	"tumbler/window"
)

const (
	least    = math.MinInt64
	greatest = math.MaxInt64
)

var (
	widths = []int64{1, 2, 3, 10, 60, 3600, api.MaxWidth}
	wrong  = []int64{0, -1, api.MaxWidth + 1, least, greatest}
)

func seconds() []int64 {
	l := []int64{0, 1, -1, 9, 10, 25, -10, -11, api.MaxStamp, least, least + 1, greatest, greatest - 1, 1 << 62, -1 << 62}
	r := rand.New(rand.NewSource(8))
	for range 200 {
		l = append(l, int64(r.Uint64())>>r.Intn(64))
	}
	return l
}

// same fails unless the answer is n, or ErrTime where n is no int64.
func same(t *testing.T, what string, got int64, err api.Errno, n *big.Int) {
	t.Helper()
	if n.IsInt64() && (err != api.OK || got != n.Int64()) || !n.IsInt64() && (err != api.ErrTime || got != 0) {
		t.Errorf("%s = %d, %d; want %v", what, got, err, n)
	}
}

// floor is a by b, rounded downwards; b is above 0.
func floor(a, b *big.Int) *big.Int { return new(big.Int).Div(a, b) }

func TestP6_1_2_5_6_Windows(t *testing.T) {
	one := big.NewInt(1)
	for _, w := range widths {
		wide := big.NewInt(w)
		for _, s := range seconds() {
			n := big.NewInt(s)
			id, err := window.Of(s, w)
			same(t, "Of", id, err, floor(n, wide))
			got, err := window.Begin(s, w)
			same(t, "Begin", got, err, new(big.Int).Mul(n, wide))
			got, err = window.End(s, w)
			same(t, "End", got, err, new(big.Int).Mul(new(big.Int).Add(n, one), wide))
			through, err := window.Through(s, w)
			same(t, "Through", through, err, new(big.Int).Sub(floor(n, wide), one))
			if end, over := window.End(through, w); err == api.OK && over == api.OK && end > s {
				t.Errorf("End(Through(%d, %d)) = %d", s, w, end)
			}
			if end, over := window.End(through+1, w); err == api.OK && over == api.OK && end <= s {
				t.Errorf("End behind Through(%d, %d) = %d", s, w, end)
			}
			if begin, err := window.Begin(id, w); err == api.OK && begin > s {
				t.Errorf("Begin(Of(%d, %d)) = %d", s, w, begin)
			}
			if end, err := window.End(id, w); err == api.OK && end <= s {
				t.Errorf("End(Of(%d, %d)) = %d", s, w, end)
			}
		}
	}
	for _, w := range wrong {
		n1, e1 := window.Of(1, w)
		n2, e2 := window.Begin(greatest, w)
		n3, e3 := window.End(greatest, w)
		n4, e4 := window.Through(least, w)
		l, e5 := window.Cover(5, 1, w)
		b, e6 := window.New(w)
		if b != nil || len(l) != 0 || n1 != 0 || n2 != 0 || n3 != 0 || n4 != 0 || slices.ContainsFunc([]api.Errno{e1, e2, e3, e4, e5, e6}, func(e api.Errno) bool { return e != api.ErrWidth }) {
			t.Errorf("width %d: %d %d %d %d %d %d", w, e1, e2, e3, e4, e5, e6)
		}
	}
}

func TestP6_3_7_Cover(t *testing.T) {
	for _, c := range []struct {
		from, to, width int64
		want            []int64
		err             api.Errno
	}{
		{5, 21, 10, []int64{0, 1, 2}, 0}, {5, 20, 10, []int64{0, 1}, 0}, {5, 5, 10, nil, 0}, {6, 5, 10, nil, 0}, {0, 4097, 1, nil, api.ErrMany}, {-5, 5, 10, []int64{-1, 0}, 0}, {-20, -10, 10, []int64{-2}, 0},
		{least, greatest, api.MaxWidth, nil, api.ErrMany}, {least, greatest, 1, nil, api.ErrMany}, {least, least + 1, 1, []int64{least}, 0}, {greatest - 1, greatest, 1, []int64{greatest - 1}, 0}, {greatest, least, 1, nil, 0},
	} {
		if l, err := window.Cover(c.from, c.to, c.width); !slices.Equal(l, c.want) || err != c.err {
			t.Errorf("Cover(%d, %d, %d) = %v, %d", c.from, c.to, c.width, l, err)
		}
	}
	if l, err := window.Cover(3, 4099, 1); err != api.OK || len(l) != 4096 || l[0] != 3 || l[4095] != 4098 {
		t.Errorf("Cover of 4096: %d, %d", len(l), err)
	}
	for from := int64(-15); from < 15; from++ {
		for to := from; to < 15; to++ {
			var want []int64
			for s := from; s < to; s++ {
				if id, _ := window.Of(s, 4); len(want) == 0 || want[len(want)-1] != id {
					want = append(want, id)
				}
			}
			if l, err := window.Cover(from, to, 4); err != api.OK || !slices.Equal(l, want) {
				t.Errorf("Cover(%d, %d, 4) = %v; want %v", from, to, l, want)
			}
		}
	}
}

func book(t *testing.T, width int64) *window.Book {
	t.Helper()
	b, err := window.New(width)
	if err != api.OK || b.Closed() != least || len(b.Open()) != 0 {
		t.Fatalf("New(%d): %d", width, err)
	}
	return b
}

func put(t *testing.T, b *window.Book, s, want int64, err api.Errno) {
	t.Helper()
	if id, e := b.Put(s); id != want || e != err {
		t.Errorf("Put(%d) = %d, %d; want %d, %d", s, id, e, want, err)
	}
}

func TestP6_4_Book(t *testing.T) {
	b := book(t, 10)
	put(t, b, 25, 2, 0)
	put(t, b, 3, 0, 0)
	if l := b.Open(); !slices.Equal(l, []int64{0, 2}) {
		t.Errorf("Open = %v", l)
	}
	if l := b.Close(20); !slices.Equal(l, []int64{0}) || b.Closed() != 1 {
		t.Errorf("Close = %v, Closed %d", l, b.Closed())
	}
	put(t, b, 19, 0, api.ErrLate)
	if l := b.Open(); !slices.Equal(l, []int64{2}) {
		t.Errorf("Open = %v", l)
	}
	if l := b.Close(29); len(l) != 0 || b.Closed() != 1 || len(b.Close(5)) != 0 || b.Closed() != 1 {
		t.Errorf("Close = %v, Closed %d", l, b.Closed())
	}
	b = book(t, 1)
	put(t, b, least, 0, api.ErrLate)
	if l := b.Close(least); len(l) != 0 || b.Closed() != least {
		t.Error("Close of a mark without a window")
	}
	for i := range int64(api.MaxCover) {
		put(t, b, i, i, 0)
	}
	put(t, b, api.MaxCover, 0, api.ErrMany)
	put(t, b, 7, 7, 0)
	if l := b.Close(2); !slices.Equal(l, []int64{0, 1}) {
		t.Errorf("Close = %v", l)
	}
	put(t, b, 1, 0, api.ErrLate)
	put(t, b, api.MaxCover, api.MaxCover, 0)
	for _, b := range []*window.Book{nil, {}} {
		put(t, b, 1, 0, api.ErrNil)
		if len(b.Close(5)) != 0 || len(b.Open()) != 0 || b.Closed() != 0 {
			t.Error("a book that was not made")
		}
	}
}

func TestP6_8_ClosedForGood(t *testing.T) {
	r := rand.New(rand.NewSource(9))
	for range 200 {
		b := book(t, int64(1+r.Intn(4)))
		var told []int64
		in := map[int64]bool{}
		for range 60 {
			s := int64(r.Intn(100) - 50)
			if r.Intn(3) > 0 {
				id, err := b.Put(s)
				if err == api.OK && slices.Contains(told, id) {
					t.Fatal("put in again")
				}
				in[id] = in[id] || err == api.OK
			} else {
				told = append(told, b.Close(s)...)
			}
			all := append(slices.Clone(told), b.Open()...)
			for id, is := range in {
				if is && !slices.Contains(all, id) {
					t.Fatalf("window %d is neither open nor told", id)
				}
			}
			slices.Sort(all)
			if !slices.IsSorted(told) || len(slices.Compact(all)) != len(told)+len(b.Open()) {
				t.Fatalf("told %v, open %v", told, b.Open())
			}
		}
	}
}
