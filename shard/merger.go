package shard

import (
	"math"
	"slices"

	"tumbler/agg"
	"tumbler/api"
)

// state is how far a shard has come.
type state struct {
	bound int64 // the greatest window of which it tells nothing any more
	last  int64 // the last window that it told
	ended bool
}

// Merger joins the results of all shards.
type Merger struct {
	self    *Merger // itself, if NewMerger made it
	shards  []state
	waiting map[int64][][]api.Tally // of each window that has not come out, by shards
}

// NewMerger makes one for so many shards.
func NewMerger(n int) (*Merger, api.Errno) {
	if n < 1 || n > api.MaxShards {
		return nil, api.ErrShard
	}
	m := &Merger{waiting: map[int64][][]api.Tally{}}
	m.self = m
	for range n {
		m.shards = append(m.shards, state{bound: math.MinInt64, last: math.MinInt64})
	}
	return m, api.OK
}

func (m *Merger) made() bool { return m != nil && m.self == m }

// Take takes a result of a shard: the windows that are whole now, rising.
func (m *Merger) Take(shard int, r api.Result) ([]api.Window, api.Errno) {
	if !m.made() {
		return nil, api.ErrNil
	}
	if shard < 0 || shard >= len(m.shards) || m.shards[shard].ended {
		return nil, api.ErrShard
	}
	if err := m.keep(shard, heard(r)); err != api.OK {
		return nil, err
	}
	return m.release(), api.OK
}

// keep takes what a shard tells, or says why not.
func (m *Merger) keep(shard int, r result) api.Errno {
	s := &m.shards[shard]
	switch x := r.(type) {
	case window:
		if x.ID <= s.bound || x.ID <= s.last {
			return api.ErrResult
		}
		if err := m.join(shard, x); err != api.OK {
			return err
		}
		s.last = x.ID
	case bound:
		if x.window <= s.bound || x.window < s.last {
			return api.ErrResult
		}
		s.bound = x.window
	case end:
		s.bound, s.ended = math.MaxInt64, true
	default:
		return api.ErrResult
	}
	return api.OK
}

// join puts a shard's tallies of a window to those of the others, if they go together.
func (m *Merger) join(shard int, w window) api.Errno {
	parts := make([][]api.Tally, len(m.shards))
	copy(parts, m.waiting[w.ID])
	parts[shard] = w.Tallies
	if _, err := agg.Join(parts...); err != api.OK {
		return err
	}
	// What came in is not kept: Join by itself makes new ones.
	own, err := agg.Join(w.Tallies)
	if err != api.OK {
		return err
	}
	parts[shard] = own
	m.waiting[w.ID] = parts
	return api.OK
}

// release lets those windows out of which no shard tells anything any more.
func (m *Merger) release() []api.Window {
	least := int64(math.MaxInt64)
	for _, s := range m.shards {
		least = min(least, s.bound)
	}
	var ids []int64
	for id := range m.waiting {
		if id <= least {
			ids = append(ids, id)
		}
	}
	slices.Sort(ids)
	var l []api.Window
	for _, id := range ids {
		tallies, err := agg.Join(m.waiting[id]...)
		if err == api.OK && len(tallies) > 0 {
			l = append(l, api.Window{ID: id, Tallies: tallies})
		}
		delete(m.waiting, id)
	}
	return l
}

// Done tells whether all shards have come to their ends.
func (m *Merger) Done() bool {
	if !m.made() {
		return false
	}
	for _, s := range m.shards {
		if !s.ended {
			return false
		}
	}
	return true
}
