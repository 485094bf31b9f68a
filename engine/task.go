package engine

import (
	"tumbler/api"
	"tumbler/ring"
	"tumbler/shard"
)

// task is one that takes a step at a time.
type task interface {
	ready() bool
	step() // of a task that is ready
}

// intake deals pending items to the shards.
type intake struct {
	pending queue[api.Item]
	have    int // how many shards have the first pending item
	lanes   []*lane
}

// lane is what one shard has.
type lane struct {
	in     queue[api.Item]
	worker *shard.Worker
	wait   queue[api.Result]
	out    queue[api.Result]
}

// next is the shard that is to get the first pending item.
func (t *intake) next() *lane {
	it := t.pending.peek()
	if it.Kind == api.IEvent {
		return t.lanes[ring.Shard(it.Event.Name, len(t.lanes))]
	}
	return t.lanes[t.have]
}

func (t *intake) ready() bool {
	return t.pending.len() > 0 && !t.next().in.full()
}

func (t *intake) step() {
	it := t.pending.peek()
	t.next().in.put(it)
	if it.Kind != api.IEvent {
		t.have++
		if t.have < len(t.lanes) {
			return
		}
	}
	t.have = 0
	t.pending.take()
}

// work lets a shard's worker take an item, or hand on a result.
type work struct{ *lane }

func (t work) ready() bool {
	if t.wait.len() > 0 {
		return !t.out.full()
	}
	return t.in.len() > 0
}

func (t work) step() {
	if t.wait.len() > 0 {
		t.out.put(t.wait.take())
		return
	}
	results, _ := t.worker.Take(t.in.take()) // the gate's items are such that no worker refuses them
	for _, r := range results {
		t.wait.put(r)
	}
}

// join lets the merger take a result of a shard.
type join struct {
	*lane
	shard  int
	merger *shard.Merger
	done   *[]api.Window
}

func (t join) ready() bool { return t.out.len() > 0 }

func (t join) step() {
	whole, _ := t.merger.Take(t.shard, t.out.take()) // nor does the merger refuse a worker's results
	*t.done = append(*t.done, whole...)
}
