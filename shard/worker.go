package shard

import (
	"math"

	"tumbler/agg"
	"tumbler/api"
)

// Worker is a shard at work.
type Worker struct {
	self  *Worker // itself, if NewWorker made it
	agg   *agg.Agg
	mark  int64 // the Window of the last mark
	ended bool
}

// NewWorker makes one.
func NewWorker() *Worker {
	w := &Worker{agg: agg.New(), mark: math.MinInt64}
	w.self = w
	return w
}

func (w *Worker) made() bool { return w != nil && w.self == w }

// Take takes an item: what it makes of it, in order.
func (w *Worker) Take(it api.Item) ([]api.Result, api.Errno) {
	if !w.made() {
		return nil, api.ErrNil
	}
	if w.ended {
		return nil, api.ErrShard
	}
	switch it.Kind {
	case api.IEvent:
		return nil, w.agg.Apply(it.Window, it.Event)
	case api.IMark:
		if it.Window <= w.mark {
			return nil, api.ErrShard
		}
		w.mark = it.Window
		return w.close(it.Window, bound{it.Window}), api.OK
	case api.IEnd:
		w.ended = true
		return w.close(math.MaxInt64, end{}), api.OK
	}
	return nil, api.ErrShard
}

// close tells all windows up to one, and what comes behind them.
func (w *Worker) close(id int64, behind result) []api.Result {
	var l []api.Result
	for _, closed := range w.agg.Close(id) {
		l = append(l, told(window(closed)))
	}
	return append(l, told(behind))
}
