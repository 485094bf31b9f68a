package archive

import (
	"cmp"
	"slices"
)

// slot is what a place holds: an interval and what belongs to it.
type slot[T any] struct {
	interval int64
	value    T
}

// ring has a place for each of so many intervals one behind the other. Places that hold nothing take no room.
type ring[T any] struct {
	step   int64
	points int64
	slots  map[int64]slot[T]
}

func newRing[T any](step int64, points int) *ring[T] {
	return &ring[T]{step: step, points: int64(points), slots: map[int64]slot[T]{}}
}

// interval is that of a second.
func (r *ring[T]) interval(t int64) int64 { return t - t%r.step }

// place is that of an interval.
func (r *ring[T]) place(interval int64) int64 { return interval / r.step % r.points }

// put puts what belongs to the interval of a second at its place, whatever was there.
func (r *ring[T]) put(t int64, value T) {
	i := r.interval(t)
	r.slots[r.place(i)] = slot[T]{i, value}
}

// get is what is known at an interval.
func (r *ring[T]) get(interval int64) (T, bool) {
	s, is := r.slots[r.place(interval)]
	if !is || s.interval != interval {
		var none T
		return none, false
	}
	return s.value, true
}

// taken tells whether something holds an interval's place.
func (r *ring[T]) taken(interval int64) bool {
	_, is := r.slots[r.place(interval)]
	return is
}

// sorted is all that the places hold, by rising intervals.
func (r *ring[T]) sorted() []slot[T] {
	l := make([]slot[T], 0, len(r.slots))
	for _, s := range r.slots {
		l = append(l, s)
	}
	slices.SortFunc(l, func(a, b slot[T]) int { return cmp.Compare(a.interval, b.interval) })
	return l
}
