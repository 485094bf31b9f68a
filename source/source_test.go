package source_test

import (
	"cmp"
	"math"
	"math/rand"
	"slices"
	"testing"

	"tumbler/api"
	"tumbler/source"
)

func table(t *testing.T, limit int, late, idle int64) *source.Table {
	t.Helper()
	x, err := source.New(limit, late, idle)
	if err != api.OK || x.Mark() != 0 || len(x.All()) != 0 {
		t.Fatalf("New(%d, %d, %d): %d", limit, late, idle, err)
	}
	return x
}

func hear(t *testing.T, x *source.Table, name string, at, now int64, want api.Errno, mark int64) {
	t.Helper()
	if err := x.Hear(name, at, now); err != want || x.Mark() != mark {
		t.Errorf("Hear(%q, %d, %d) = %d, Mark %d; want %d, %d", name, at, now, err, x.Mark(), want, mark)
	}
}

func TestP11_1_New(t *testing.T) {
	for _, c := range []struct {
		limit      int
		late, idle int64
	}{{0, 0, 1}, {1025, 0, 1}, {-1, 0, 1}, {1, -1, 1}, {1, api.MaxStamp + 1, 1}, {1, 0, 0}, {1, 0, -1}, {1, 0, api.MaxStamp + 1}, {1, math.MinInt64, 1}} {
		if x, err := source.New(c.limit, c.late, c.idle); x != nil || err != api.ErrArg {
			t.Errorf("New(%v): %d", c, err)
		}
	}
	table(t, 1024, api.MaxStamp, api.MaxStamp)
	table(t, 1, 0, 1)
}

func TestP11_2_to_5_Examples(t *testing.T) {
	x := table(t, 2, 10, 60)
	hear(t, x, "a", 100, 5, 0, 90)
	hear(t, x, "b", 50, 6, 0, 90)
	hear(t, x, "c", 1, 6, api.ErrSource, 90)
	hear(t, x, "b", 120, 7, 0, 90)
	hear(t, x, "a", 130, 7, 0, 110)
	if l := x.All(); !slices.Equal(l, []api.Source{{Name: "a", Max: 130, Last: 7}, {Name: "b", Max: 120, Last: 7}}) {
		t.Errorf("All = %v", l)
	}
	if s, ok := x.Get("b"); !ok || s != (api.Source{Name: "b", Max: 120, Last: 7}) {
		t.Errorf("Get = %v", s)
	}
	if l := x.Tick(66); len(l) != 0 || len(x.Tick(-1)) != 0 || len(x.Tick(api.MaxStamp+1)) != 0 {
		t.Errorf("Tick(66) = %v", l)
	}
	if l := x.Tick(67); !slices.Equal(l, []string{"a", "b"}) || x.Mark() != 110 || len(x.All()) != 0 {
		t.Errorf("Tick(67) = %v, Mark %d", l, x.Mark())
	}
	if s, ok := x.Get("a"); ok || s != (api.Source{}) {
		t.Errorf("Get of one that is gone: %v", s)
	}
	hear(t, x, "c", 40, 70, 0, 110)
	hear(t, x, "c", 30, 60, 0, 110)
	if s, _ := x.Get("c"); s != (api.Source{Name: "c", Max: 40, Last: 70}) {
		t.Errorf("what is less does not draw back: %v", s)
	}
	hear(t, x, "a", -1, 0, api.ErrArg, 110)
	hear(t, x, "a", 0, -1, api.ErrArg, 110)
	hear(t, x, "a", api.MaxStamp+1, 0, api.ErrArg, 110)
	hear(t, x, "a", 0, api.MaxStamp+1, api.ErrArg, 110)
	hear(t, x, "", api.MaxStamp, api.MaxStamp, 0, 110)
	hear(t, x, "z", -1, 0, api.ErrArg, 110)
}

func TestP11_2_to_5_LikeAList(t *testing.T) {
	r := rand.New(rand.NewSource(15))
	for range 300 {
		limit, late, idle := 1+r.Intn(4), r.Int63n(20), 1+r.Int63n(20)
		x := table(t, limit, late, idle)
		var l []api.Source
		var mark int64
		for range 60 {
			name, at, now := string(rune('a'+r.Intn(6))), r.Int63n(100), r.Int63n(100)
			i := slices.IndexFunc(l, func(s api.Source) bool { return s.Name == name })
			if r.Intn(4) == 0 {
				now = r.Int63n(60)
				var want []string
				slices.SortFunc(l, func(a, b api.Source) int { return cmp.Or(cmp.Compare(a.Last, b.Last), cmp.Compare(a.Name, b.Name)) })
				l = slices.DeleteFunc(l, func(s api.Source) bool {
					if s.Last <= now-idle {
						want = append(want, s.Name)
					}
					return s.Last <= now-idle
				})
				if got := x.Tick(now); !slices.Equal(got, want) {
					t.Fatalf("Tick = %v; want %v", got, want)
				}
			} else if err := x.Hear(name, at, now); i < 0 && len(l) == limit {
				if err != api.ErrSource {
					t.Fatalf("Hear: %d", err)
				}
			} else if i < 0 {
				l = append(l, api.Source{Name: name, Max: at, Last: now})
			} else {
				l[i].Max, l[i].Last = max(l[i].Max, at), max(l[i].Last, now)
			}
			if len(l) > 0 {
				mark = max(mark, slices.MinFunc(l, func(a, b api.Source) int { return cmp.Compare(a.Max, b.Max) }).Max-late)
			}
			slices.SortFunc(l, func(a, b api.Source) int { return cmp.Compare(a.Name, b.Name) })
			if !slices.Equal(x.All(), l) || x.Mark() != mark {
				t.Fatalf("All %v, Mark %d; want %v, %d", x.All(), x.Mark(), l, mark)
			}
		}
	}
}

func TestP1_NotMade(t *testing.T) {
	made := table(t, 2, 0, 1)
	made.Hear("a", 5, 5)
	for _, x := range []*source.Table{nil, {}} {
		hear(t, x, "a", -1, 5, api.ErrNil, 0)
		if _, ok := x.Get("a"); ok || len(x.Tick(9)) != 0 || len(x.All()) != 0 {
			t.Error("a table that was not made")
		}
	}
}
