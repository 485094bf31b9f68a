package due

import (
	"cmp"

	"tumbler/api"
)

// keys is a heap that knows where each key stands.
type keys struct {
	list  []api.Due
	place map[string]int
}

// order is the queue's: by rising At, of the same by rising keys.
func order(a, b api.Due) int {
	if a.At != b.At {
		return cmp.Compare(a.At, b.At)
	}
	return cmp.Compare(a.Key, b.Key)
}

// Len is how many there are.
func (k *keys) Len() int { return len(k.list) }

// Less tells which of two is due first.
func (k *keys) Less(i, j int) bool { return order(k.list[i], k.list[j]) < 0 }

// Swap lets two change places.
func (k *keys) Swap(i, j int) {
	k.list[i], k.list[j] = k.list[j], k.list[i]
	k.place[k.list[i].Key] = i
	k.place[k.list[j].Key] = j
}

// Push puts one behind the others.
func (k *keys) Push(x any) {
	if d, is := x.(api.Due); is {
		k.place[d.Key] = len(k.list)
		k.list = append(k.list, d)
	}
}

// Pop takes the last one off.
func (k *keys) Pop() any {
	last := len(k.list) - 1
	d := k.list[last]
	k.list[last] = api.Due{}
	k.list = k.list[:last]
	delete(k.place, d.Key)
	return d
}
