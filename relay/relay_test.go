package relay_test

import (
	"math"
	"math/rand"
	"slices"
	"strconv"
	"testing"

	"tumbler/api"
	"tumbler/relay"
	"tumbler/ring"
	"tumbler/wide"
)

func config() api.RelayConfig {
	return api.RelayConfig{Nodes: []string{"c", "a", "b"}, Copies: 8, Replicas: 2, Held: 1}
}

func made(t *testing.T, c api.RelayConfig) *relay.Relay {
	t.Helper()
	r, err := relay.New(c)
	if err != api.OK {
		t.Fatalf("New(%v): %d", c, err)
	}
	return r
}

func record(path string, v int64) api.Record {
	return api.Record{Path: path, Value: wide.Of(v), Time: v}
}

func TestP24_1_New(t *testing.T) {
	for i, c := range []struct {
		c    api.RelayConfig
		want api.Errno
	}{{api.RelayConfig{}, api.ErrCopies}, {api.RelayConfig{Copies: 129}, api.ErrCopies}, {api.RelayConfig{Copies: 1, Nodes: []string{"a", ""}}, api.ErrNodes}, {api.RelayConfig{Copies: 1, Nodes: []string{"a", "a"}}, api.ErrThere}, {api.RelayConfig{Copies: 1}, api.ErrNode},
		{api.RelayConfig{Copies: 1, Nodes: []string{"a"}, Held: 1}, api.ErrArg}, {api.RelayConfig{Copies: 1, Nodes: []string{"a"}, Replicas: 9, Held: 1}, api.ErrArg}, {api.RelayConfig{Copies: 1, Nodes: []string{"a"}, Replicas: 1}, api.ErrArg}, {api.RelayConfig{Copies: 1, Nodes: []string{"a"}, Replicas: 1, Held: 65537}, api.ErrArg},
		{api.RelayConfig{Copies: 1, Nodes: []string{"a"}, Replicas: -1, Held: 1}, api.ErrArg}, {api.RelayConfig{Copies: 1, Nodes: []string{"a"}, Replicas: 8, Held: 65536}, api.OK}} {
		if r, err := relay.New(c.c); err != c.want || (r == nil) != (err != api.OK) {
			t.Errorf("%d: New: %d; want %d", i, err, c.want)
		}
	}
	r := made(t, config())
	if l := r.Counts(); !slices.Equal(l, []api.RelayCount{{Node: "a", Up: true}, {Node: "b", Up: true}, {Node: "c", Up: true}}) {
		t.Errorf("Counts %v", l)
	}
}

func take(t *testing.T, r *relay.Relay, node string, n int, want api.Errno, l ...api.Record) {
	t.Helper()
	if got, err := r.Take(node, n); err != want || !slices.Equal(got, l) {
		t.Errorf("Take(%q, %d) = %v, %d; want %v, %d", node, n, got, err, l, want)
	}
}

func TestP24_2_to_5_Examples(t *testing.T) {
	for _, newest := range []bool{false, true} {
		c := config()
		c.Newest = newest
		r := made(t, c)
		first, second := record("p", 1), record("p", 2)
		circle, _ := ring.New(c.Nodes, c.Copies)
		way := circle.Pick("p", 3)
		if r.Put(first) != 2 || r.Put(second) != 2 {
			t.Error("Put")
		}
		for _, x := range r.Counts() {
			want := api.RelayCount{Node: x.Node, Up: true}
			if x.Node != way[2] {
				want.Held, want.Dropped = 1, 1
			}
			if x != want {
				t.Errorf("Counts %v; want %v", x, want)
			}
		}
		kept := second
		if newest {
			kept = first
		}
		take(t, r, way[0], 5, 0, kept)
		take(t, r, way[0], 5, 0)
		if i := slices.IndexFunc(r.Counts(), func(x api.RelayCount) bool { return x.Node == way[0] }); r.Counts()[i] != (api.RelayCount{Node: way[0], Up: true, Sent: 1, Dropped: 1}) {
			t.Errorf("Counts %v", r.Counts())
		}
	}
	r := made(t, config())
	if r.Down("a") != api.OK || r.Down("b") != api.OK || r.Put(record("p", 1)) != 1 || r.Counts()[2].Held != 1 || r.Down("c") != api.OK || r.Put(record("p", 2)) != 0 {
		t.Error("Down")
	}
	take(t, r, "a", 1, api.ErrDown)
	take(t, r, "a", 0, api.ErrDown)
	take(t, r, "x", 0, api.ErrNode)
	if r.Down("a") != api.ErrDown || r.Up("a") != api.OK || r.Up("a") != api.ErrUp || r.Down("x") != api.ErrNode || r.Up("x") != api.ErrNode || r.Up("") != api.ErrNode {
		t.Error("Up, Down")
	}
	take(t, r, "a", 0, api.ErrArg)
	take(t, r, "a", math.MinInt64, api.ErrArg)
	take(t, r, "a", math.MaxInt64, 0)
	if r.Up("b") != api.OK || r.Up("c") != api.OK || r.Up("c") != api.ErrUp {
		t.Error("Up of the last one")
	}
	take(t, r, "c", 1, 0, record("p", 1)) // what it held while it was away
	if r.Put(api.Record{Path: "\xff any", Value: api.Wide{Hi: math.MinInt64}, Time: -5}) != 2 {
		t.Error("any record may come")
	}
}

func TestP24_6_7_Conserved(t *testing.T) {
	r := rand.New(rand.NewSource(28))
	for range 200 {
		c := api.RelayConfig{Copies: 1 + r.Intn(8), Replicas: 1 + r.Intn(8), Held: 1 + r.Intn(6), Newest: r.Intn(2) == 0}
		for i := range 1 + r.Intn(5) {
			c.Nodes = append(c.Nodes, "n"+strconv.Itoa(i))
		}
		x := made(t, c)
		circle, _ := ring.New(c.Nodes, c.Copies)
		down := map[string]bool{}
		held, sent, dropped := map[string][]api.Record{}, map[string]int{}, map[string]int{}
		sum := 0
		for i := range int64(100) {
			node := c.Nodes[r.Intn(len(c.Nodes))]
			switch r.Intn(6) {
			case 0:
				if (x.Down(node) == api.OK) == down[node] {
					t.Fatal("Down")
				}
				down[node] = true
			case 1:
				if (x.Up(node) == api.OK) != down[node] {
					t.Fatal("Up")
				}
				down[node] = false
			case 2:
				n := 1 + r.Intn(3)
				l, err := x.Take(node, n)
				if down[node] {
					if err != api.ErrDown {
						t.Fatal("Take of one that is down")
					}
					break
				}
				n = min(n, len(held[node]))
				if !slices.Equal(l, held[node][:n]) {
					t.Fatalf("Take = %v; want %v", l, held[node][:n])
				}
				held[node] = held[node][n:]
				sent[node] += n
			default:
				p := record(strconv.Itoa(r.Intn(20)), i)
				n := 0
				for _, to := range circle.Pick(p.Path, 99) {
					if down[to] || n == c.Replicas {
						continue
					}
					n++
					full := len(held[to]) == c.Held
					if full {
						dropped[to]++
					}
					if full && !c.Newest {
						held[to] = held[to][1:]
					}
					if !full || !c.Newest {
						held[to] = append(held[to], p)
					}
				}
				if got := x.Put(p); got != n {
					t.Fatalf("Put = %d; want %d", got, n)
				}
				sum += n
			}
			all := 0
			for _, k := range x.Counts() {
				if k != (api.RelayCount{Node: k.Node, Up: !down[k.Node], Held: len(held[k.Node]), Sent: sent[k.Node], Dropped: dropped[k.Node]}) {
					t.Fatalf("Counts %v", k)
				}
				all += k.Held + k.Sent + k.Dropped
			}
			if all != sum {
				t.Fatalf("%d records; want %d", all, sum)
			}
		}
	}
}

func TestP1_NotMade(t *testing.T) {
	for _, r := range []*relay.Relay{nil, {}} {
		take(t, r, "a", 0, api.ErrNil)
		if r.Put(record("p", 1)) != 0 || r.Down("x") != api.ErrNil || r.Up("x") != api.ErrNil || len(r.Counts()) != 0 {
			t.Error("a relay that was not made")
		}
	}
}
