package sink_test

import (
	"bytes"
	"math"
	"math/rand"
	"slices"
	"testing"

	"tumbler/api"
	"tumbler/sink"
)

func frame(t *testing.T, s *sink.Sink, id int64, b string, want api.Errno) {
	t.Helper()
	if err := s.Frame(id, []byte(b)); err != want {
		t.Errorf("Frame(%d, %q) = %d; want %d", id, b, err, want)
	}
}

func report(t *testing.T, s *sink.Sink, writes int, whole, lost []int64, conns ...api.Conn) {
	t.Helper()
	r := s.Report()
	ok := r.Writes == writes && slices.Equal(r.Whole, whole) && slices.Equal(r.Lost, lost) && len(r.Conns) == len(conns)
	for i := range conns {
		ok = ok && bytes.Equal(r.Conns[i].Bytes, conns[i].Bytes) && r.Conns[i].Failed == conns[i].Failed
	}
	if !ok {
		t.Errorf("Report %+v; want %d, %v, %v, %v", r, writes, whole, lost, conns)
	}
}

func open(b string) api.Conn   { return api.Conn{Bytes: []byte(b)} }
func failed(b string) api.Conn { return api.Conn{Bytes: []byte(b), Failed: true} }

func ids(l ...int64) []int64 { return l }

func TestP18_Examples(t *testing.T) {
	s := sink.New(nil)
	report(t, s, 0, nil, nil)
	frame(t, s, 1, "ab\n", 0)
	frame(t, s, 2, "c\n", 0)
	report(t, s, 2, ids(1, 2), nil, open("ab\nc\n"))

	s = sink.New([]api.Choice{{Count: 1}, {Count: 5}})
	frame(t, s, 1, "abc", 0)
	report(t, s, 2, ids(1), nil, open("abc"))

	s = sink.New([]api.Choice{{Count: 2, Fail: true}})
	frame(t, s, 1, "abc", 0)
	frame(t, s, 2, "de", 0)
	report(t, s, 2, ids(2), ids(1), failed("ab"), open("de"))

	s = sink.New([]api.Choice{{Count: 3, Fail: true}})
	frame(t, s, 1, "abc", 0)
	frame(t, s, 1, "x", api.ErrOrder)
	report(t, s, 1, ids(1), nil, failed("abc"))

	s = sink.New(make([]api.Choice, 64))
	frame(t, s, 1, "a", 0)
	report(t, s, 64, nil, ids(1), failed(""))
	frame(t, s, 2, "b", 0)
	report(t, s, 65, ids(2), ids(1), failed(""), open("b"))
}

func TestP18_1_Edges(t *testing.T) {
	s := sink.New([]api.Choice{{Count: -5, Fail: true}, {Count: math.MinInt64}, {Count: math.MaxInt64, Fail: true}})
	frame(t, s, math.MinInt64, "", 0) // no connection, and no write
	report(t, s, 0, ids(math.MinInt64), nil)
	frame(t, s, math.MinInt64, "", api.ErrOrder)
	frame(t, s, 5, "ab", 0)
	frame(t, s, 4, "x", api.ErrOrder)
	frame(t, s, 6, "", 0)
	frame(t, s, 7, "cd", 0)
	frame(t, s, math.MaxInt64, "ef", 0)
	report(t, s, 4, ids(math.MinInt64, 6, 7, math.MaxInt64), ids(5), failed(""), failed("cd"), open("ef"))

	// 63 writes of nothing, one of a byte, and 63 again: no failure; then 64 over two frames: none either.
	plan := make([]api.Choice, 63)
	plan = append(append(append(plan, api.Choice{Count: 1}), plan...), api.Choice{Count: 1})
	plan = append(plan, make([]api.Choice, 63)...)
	s = sink.New(plan)
	frame(t, s, 1, "ab", 0)
	frame(t, s, 2, "c", 0)
	report(t, s, 64+64+64, ids(1, 2), nil, open("abc"))

	plan[0].Fail = true // what was handed in is not kept
	for _, s := range []*sink.Sink{nil, {}} {
		frame(t, s, 1, "a", api.ErrNil)
		if !equal(s.Report(), api.SinkReport{}) {
			t.Error("a sink that was not made")
		}
	}
}

func TestP18_2_Shared(t *testing.T) {
	plan := []api.Choice{{Count: 9}}
	s := sink.New(plan)
	plan[0] = api.Choice{Fail: true}
	b := []byte("abc")
	s.Frame(1, b)
	b[0] = 'x'
	r := s.Report()
	r.Conns[0].Bytes[0], r.Whole[0] = 'y', 9
	report(t, s, 1, ids(1), nil, open("abc"))
}

func TestP18_3_to_7(t *testing.T) {
	r := rand.New(rand.NewSource(22))
	for range 1000 {
		var plan, gentle []api.Choice
		for range r.Intn(20) {
			plan = append(plan, api.Choice{Count: r.Intn(5), Fail: r.Intn(4) == 0})
			gentle = append(gentle, api.Choice{Count: 1 + r.Intn(5)})
		}
		s, plain, pieces := sink.New(plan), sink.New(nil), sink.New(gentle)
		var frames [][]byte
		for id := range int64(8) {
			b := bytes.Repeat([]byte{byte('a' + id)}, r.Intn(5))
			frames = append(frames, b)
			for _, x := range []*sink.Sink{s, plain, pieces} {
				x.Frame(id, b)
			}
		}
		checkConns(t, s.Report(), frames)
		p, q := plain.Report(), pieces.Report()
		q.Writes = p.Writes
		if !equal(p, q) || len(p.Lost) > 0 || len(p.Conns) > 1 {
			t.Fatalf("in pieces %+v; want %+v", q, p)
		}
	}
}

// checkConns holds what all connections have against the frames, each of one letter of its own.
func checkConns(t *testing.T, r api.SinkReport, frames [][]byte) {
	t.Helper()
	all := slices.Sorted(slices.Values(append(slices.Clone(r.Whole), r.Lost...)))
	if len(all) != len(frames) || len(slices.Compact(all)) != len(frames) || !slices.IsSorted(r.Whole) || !slices.IsSorted(r.Lost) || len(r.Conns) > len(frames) {
		t.Fatalf("whole %v, lost %v", r.Whole, r.Lost)
	}
	next := 0 // the frame of which something may stand next
	for i, c := range r.Conns {
		if i+1 < len(r.Conns) && !c.Failed {
			t.Fatal("a connection was left that has not failed")
		}
		for rest := c.Bytes; len(rest) > 0; {
			id := int(rest[0] - 'a')
			if id < next {
				t.Fatalf("frame %d was begun twice", id)
			}
			next = id + 1
			n := min(len(frames[id]), len(rest))
			whole := slices.Contains(r.Whole, int64(id))
			if !bytes.Equal(rest[:n], frames[id][:n]) && whole {
				t.Fatalf("frame %d is not whole in %q", id, c.Bytes)
			}
			if !whole {
				if bytes.Equal(rest, frames[id]) || !bytes.HasPrefix(frames[id], rest) || !c.Failed {
					t.Fatalf("the lost frame %d in %q", id, c.Bytes)
				}
				break
			}
			rest = rest[n:]
		}
	}
}
