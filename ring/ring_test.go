package ring_test

import (
	"cmp"
	"hash/fnv"
	"math"
	"math/rand"
	"slices"
	"strconv"
	"strings"
	"testing"

	"tumbler/api"
	"tumbler/ring"
)

func TestP13_1_Hashes(t *testing.T) {
	if ring.Hash("") != 2166136261 || ring.Hash("a") != 3826002220 || ring.Hash64("") != 14695981039346656037 || ring.Hash64("a") != 12638187200555641996 {
		t.Error("the chapter's hashes")
	}
	for _, s := range []string{"web.hits", "\xff\x00", strings.Repeat("é", 999)} {
		a, b := fnv.New32a(), fnv.New64a()
		a.Write([]byte(s))
		b.Write([]byte(s))
		if ring.Hash(s) != a.Sum32() || ring.Hash64(s) != b.Sum64() {
			t.Errorf("the hashes of %q", s)
		}
		for n := 1; n <= 16; n++ {
			if ring.Shard(s, n) != int(a.Sum32()%uint32(n)) {
				t.Errorf("Shard(%q, %d) = %d", s, n, ring.Shard(s, n))
			}
		}
	}
	if ring.Shard("a", 16) != 12 || ring.Shard("a", 0) != 0 || ring.Shard("a", 17) != 0 || ring.Shard("a", -3) != 0 || ring.Shard("a", math.MinInt64) != 0 {
		t.Error("Shard")
	}
}

func made(t *testing.T, copies int, nodes ...string) *ring.Ring {
	t.Helper()
	r, err := ring.New(nodes, copies)
	if err != api.OK {
		t.Fatalf("New(%q, %d): %d", nodes, copies, err)
	}
	return r
}

func numbered(n int) []string {
	var l []string
	for i := range n {
		l = append(l, "n"+strconv.Itoa(i))
	}
	return l
}

func TestP13_2_New(t *testing.T) {
	long := strings.Repeat("x", 201)
	for _, c := range []struct {
		nodes  []string
		copies int
		want   api.Errno
	}{{[]string{"a"}, 0, api.ErrCopies}, {[]string{"a"}, 129, api.ErrCopies}, {[]string{"", ""}, -1, api.ErrCopies}, {[]string{"a", "a"}, 1, api.ErrThere}, {[]string{""}, 1, api.ErrNodes}, {[]string{long}, 1, api.ErrNodes},
		{[]string{"a", "a", ""}, 1, api.ErrNodes}, {numbered(65), 1, api.ErrNodes}, {slices.Repeat([]string{"a"}, 65), 1, api.ErrNodes}} {
		if r, err := ring.New(c.nodes, c.copies); r != nil || err != c.want {
			t.Errorf("New(%q, %d): %d; want %d", c.nodes, c.copies, err, c.want)
		}
	}
	if r := made(t, 128, numbered(64)...); len(r.Nodes()) != 64 || len(r.Places()) != 64*128 || r.Add("x") != api.ErrNodes || r.Add("n0") != api.ErrNodes {
		t.Error("the most nodes and copies")
	}
	made(t, 1, long[:200], "\xff\x00", " ")
}

func TestP13_3_AddAndRemove(t *testing.T) {
	r := made(t, 1)
	if node, ok := r.Get("x"); node != "" || ok || len(r.Pick("x", 3)) != 0 || len(r.Places()) != 0 {
		t.Error("a ring without nodes")
	}
	for _, c := range []struct {
		got, want api.Errno
	}{{r.Remove("q"), api.ErrMissing}, {r.Add("q"), 0}, {r.Add("q"), api.ErrThere}, {r.Add(""), api.ErrNodes}, {r.Add(strings.Repeat("x", 201)), api.ErrNodes}, {r.Remove(""), api.ErrMissing}} {
		if c.got != c.want {
			t.Errorf("%d; want %d", c.got, c.want)
		}
	}
	if node, ok := r.Get("x"); node != "q" || !ok {
		t.Errorf("Get = %q", node)
	}
	if r.Remove("q") != api.OK || len(r.Nodes()) != 0 || len(r.Places()) != 0 || r.Remove("q") != api.ErrMissing {
		t.Error("Remove")
	}
}

// plain are the places by their meaning.
func plain(nodes []string, copies int) []api.Place {
	var l []api.Place
	for _, n := range nodes {
		for i := range copies {
			l = append(l, api.Place{At: ring.Hash64(n + ":" + strconv.Itoa(i)), Node: n})
		}
	}
	slices.SortFunc(l, func(a, b api.Place) int { return cmp.Or(cmp.Compare(a.At, b.At), cmp.Compare(a.Node, b.Node)) })
	return l
}

// way are a key's nodes by their meaning.
func way(places []api.Place, key string) []string {
	var l []string
	for _, from := range []func(api.Place) bool{
		func(p api.Place) bool { return p.At >= ring.Hash64(key) }, func(p api.Place) bool { return p.At < ring.Hash64(key) }} {
		for _, p := range places {
			if from(p) && !slices.Contains(l, p.Node) {
				l = append(l, p.Node)
			}
		}
	}
	return l
}

func TestP13_4_5_PlacesAndPicks(t *testing.T) {
	r := rand.New(rand.NewSource(17))
	for range 60 {
		nodes, copies := numbered(1+r.Intn(9)), 1+r.Intn(20)
		places := plain(nodes, copies)
		r.Shuffle(len(nodes), func(i, j int) { nodes[i], nodes[j] = nodes[j], nodes[i] })
		x := made(t, copies, nodes...)
		if !slices.Equal(x.Places(), places) || !slices.Equal(x.Nodes(), slices.Sorted(slices.Values(nodes))) {
			t.Fatalf("Places %v, Nodes %v", x.Places(), x.Nodes())
		}
		for i := range 50 {
			key := strconv.Itoa(i)
			want := way(places, key)
			first, ok := x.Get(key)
			if !slices.Equal(x.Pick(key, 99), want) || !slices.Equal(x.Pick(key, 2), want[:min(2, len(want))]) || first != want[0] || !ok || len(x.Pick(key, 0)) != 0 || len(x.Pick(key, math.MinInt64)) != 0 {
				t.Fatalf("Pick(%q) = %v; want %v", key, x.Pick(key, 99), want)
			}
		}
		x.Places()[0].Node, x.Nodes()[0] = "z", "z"
		if !slices.Equal(x.Places(), places) || x.Nodes()[0] == "z" {
			t.Fatal("what is handed out is shared")
		}
	}
	// A key whose hash is a place's own At begins there.
	x := made(t, 1, "a", "b")
	if node, _ := x.Get("a:0"); node != "a" {
		t.Errorf("Get of a place's own text: %q", node)
	}
}

func TestP13_6_LittleMoves(t *testing.T) {
	nodes := numbered(8)
	x := made(t, 16, nodes...)
	for _, gone := range nodes {
		y := made(t, 16, nodes...)
		if y.Remove(gone) != api.OK {
			t.Fatal("Remove")
		}
		rest := slices.DeleteFunc(slices.Clone(nodes), func(n string) bool { return n == gone })
		if !slices.Equal(y.Places(), plain(rest, 16)) {
			t.Fatal("the ring hangs on more than its nodes")
		}
		for i := range 200 {
			key := strconv.Itoa(i)
			want := slices.DeleteFunc(x.Pick(key, 8), func(n string) bool { return n == gone })
			if !slices.Equal(y.Pick(key, 7), want) {
				t.Fatalf("Pick(%q) without %q: %v; want %v", key, gone, y.Pick(key, 7), want)
			}
		}
		if y.Add(gone) != api.OK || !slices.Equal(y.Places(), x.Places()) {
			t.Fatal("what came again")
		}
	}
}

func TestP1_NotMade(t *testing.T) {
	for _, r := range []*ring.Ring{nil, {}} {
		if _, ok := r.Get("x"); ok || r.Add("") != api.ErrNil || r.Remove("a") != api.ErrNil || len(r.Pick("x", 1)) != 0 || len(r.Nodes()) != 0 || len(r.Places()) != 0 {
			t.Error("a ring that was not made")
		}
	}
}
