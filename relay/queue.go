package relay

// queue keeps things in order.
type queue[T any] struct {
	first int // what stands ahead of it in list is taken
	list  []T
}

func (q *queue[T]) len() int { return len(q.list) - q.first }

// put puts one behind the others.
func (q *queue[T]) put(x T) { q.list = append(q.list, x) }

// take takes the first n off, or all, if there are fewer.
func (q *queue[T]) take(n int) []T {
	n = min(n, q.len())
	taken := make([]T, n)
	copy(taken, q.list[q.first:])
	clear(q.list[q.first : q.first+n])
	q.first += n
	// Taken places are given back once they are the greater part, so that the list does not grow for ever.
	if 2*q.first >= len(q.list) {
		q.list = append(q.list[:0], q.list[q.first:]...)
		q.first = 0
	}
	return taken
}
