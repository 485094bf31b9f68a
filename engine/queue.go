package engine

// queue keeps things in order, in so many places; without bound, if room is 0.
type queue[T any] struct {
	room  int
	first int // what stands ahead of it in list is taken
	list  []T
}

func (q *queue[T]) len() int { return len(q.list) - q.first }

func (q *queue[T]) full() bool { return q.room > 0 && q.len() >= q.room }

// put puts one behind the others.
func (q *queue[T]) put(x T) { q.list = append(q.list, x) }

// peek is the first one, of a queue that has one.
func (q *queue[T]) peek() T { return q.list[q.first] }

// take takes the first one off.
func (q *queue[T]) take() T {
	var none T
	x := q.list[q.first]
	q.list[q.first] = none
	q.first++
	// Taken places are given back once they are the greater part, so that the list does not grow for ever.
	if 2*q.first >= len(q.list) {
		q.list = append(q.list[:0], q.list[q.first:]...)
		q.first = 0
	}
	return x
}
