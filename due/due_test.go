package due_test

import (
	"cmp"
	"math"
	"math/rand"
	"slices"
	"strconv"
	"testing"

	"tumbler/api"
	"tumbler/due"
)

func queue(t *testing.T, limit int) *due.Queue {
	t.Helper()
	q, err := due.New(limit)
	if err != api.OK || q.Len() != 0 {
		t.Fatalf("New(%d): %d", limit, err)
	}
	return q
}

func set(t *testing.T, q *due.Queue, key string, at int64, want api.Errno) {
	t.Helper()
	if err := q.Set(key, at); err != want {
		t.Errorf("Set(%q, %d) = %d; want %d", key, at, err, want)
	}
}

func TestP7_1_New(t *testing.T) {
	for _, n := range []int{0, -1, 65537} {
		if q, err := due.New(n); q != nil || err != api.ErrArg {
			t.Errorf("New(%d): %d", n, err)
		}
	}
	q := queue(t, api.MaxDue)
	for i := range api.MaxDue {
		set(t, q, strconv.Itoa(i), int64(i%100), 0)
	}
	set(t, q, "x", 1, api.ErrFull)
	if l := q.Take(98); len(l) < 60000 || q.Len() != api.MaxDue-len(l) {
		t.Errorf("Take: %d", len(l))
	}
}

func TestP7_2_to_5_Examples(t *testing.T) {
	q := queue(t, 2)
	if d, ok := q.Next(); d != (api.Due{}) || ok || q.Drop("x") {
		t.Error("a queue without keys")
	}
	if at, ok := q.At("x"); at != 0 || ok {
		t.Error("At of none")
	}
	set(t, q, "b", 5, 0)
	set(t, q, "a", 5, 0)
	set(t, q, "c", 1, api.ErrFull)
	set(t, q, "b", 9, 0)
	if d, ok := q.Next(); d != (api.Due{Key: "a", At: 5}) || !ok || q.Len() != 2 {
		t.Errorf("Next = %v", d)
	}
	if l := q.Take(4); len(l) != 0 {
		t.Errorf("Take(4) = %v", l)
	}
	if l := q.Take(9); !slices.Equal(l, []api.Due{{Key: "a", At: 5}, {Key: "b", At: 9}}) || q.Len() != 0 {
		t.Errorf("Take(9) = %v", l)
	}
	set(t, q, "x", math.MinInt64, 0)
	if l := q.Take(math.MinInt64); !slices.Equal(l, []api.Due{{Key: "x", At: math.MinInt64}}) {
		t.Errorf("Take = %v", l)
	}
	set(t, q, "", math.MaxInt64, 0)
	if !q.Drop("") || q.Drop("") || q.Len() != 0 {
		t.Error("Drop")
	}
}

// sorted are the keys of a plain map in the queue's order.
func sorted(m map[string]int64) []api.Due {
	var l []api.Due
	for k, at := range m {
		l = append(l, api.Due{Key: k, At: at})
	}
	slices.SortFunc(l, func(a, b api.Due) int { return cmp.Or(cmp.Compare(a.At, b.At), cmp.Compare(a.Key, b.Key)) })
	return l
}

func TestP7_2_to_6_LikeAMap(t *testing.T) {
	r := rand.New(rand.NewSource(10))
	for range 300 {
		limit := 1 + r.Intn(8)
		q, m := queue(t, limit), map[string]int64{}
		for range 80 {
			key, at := string(rune('a'+r.Intn(12))), int64(r.Intn(10)-5)
			_, is := m[key]
			switch r.Intn(5) {
			case 0:
				if q.Drop(key) != is {
					t.Fatal("Drop")
				}
				delete(m, key)
			case 1:
				var want []api.Due
				for _, d := range sorted(m) {
					if d.At <= at {
						want = append(want, d)
						delete(m, d.Key)
					}
				}
				if l := q.Take(at); !slices.Equal(l, want) {
					t.Fatalf("Take(%d) = %v; want %v", at, l, want)
				}
			default:
				err := q.Set(key, at)
				if full := !is && len(m) == limit; full != (err == api.ErrFull) || !full && err != api.OK {
					t.Fatalf("Set = %d", err)
				}
				if err == api.OK {
					m[key] = at
				}
			}
			want := sorted(m)
			next, ok := q.Next()
			if got := slices.Collect(q.All()); !slices.Equal(got, want) || q.Len() != len(m) || ok != (len(m) > 0) || ok && next != want[0] {
				t.Fatalf("All = %v; want %v", got, want)
			}
			if at, ok := q.At(key); at != m[key] || ok != slices.ContainsFunc(want, func(d api.Due) bool { return d.Key == key }) {
				t.Fatalf("At(%q) = %d, %v", key, at, ok)
			}
		}
	}
}

func TestP7_6_All(t *testing.T) {
	q := queue(t, 9)
	for i, k := range []string{"c", "a", "b"} {
		set(t, q, k, int64(i/2), 0)
	}
	all := q.All()
	var seen string
	for d := range all {
		seen += d.Key
		q.Drop("c")
		set(t, q, "z", 5, 0)
		for e := range all {
			seen += e.Key
			break
		}
	}
	if seen != "aacaba" {
		t.Errorf("seen %q", seen)
	}
	seen = ""
	for d := range all {
		seen += d.Key
	}
	if seen != "abz" {
		t.Errorf("seen %q", seen)
	}
}

func TestP1_NotMade(t *testing.T) {
	made := queue(t, 3)
	set(t, made, "a", 1, 0)
	for _, q := range []*due.Queue{nil, {}} {
		set(t, q, "a", 1, api.ErrNil)
		when, at := q.At("a")
		_, next := q.Next()
		if when != 0 || at || next || q.Drop("a") || len(q.Take(9)) != 0 || q.Len() != 0 || len(slices.Collect(q.All())) != 0 {
			t.Error("a queue that was not made")
		}
	}
}
