package window

import (
	"math"
	"slices"

	"tumbler/api"
)

// Book keeps which windows are open and which are closed.
type Book struct {
	self   *Book // itself, if New made it
	width  int64
	open   map[int64]struct{}
	closed int64
}

// New makes a book without open windows.
func New(width int64) (*Book, api.Errno) {
	if !mayWidth(width) {
		return nil, api.ErrWidth
	}
	b := &Book{width: width, open: map[int64]struct{}{}, closed: math.MinInt64}
	b.self = b
	return b, api.OK
}

func (b *Book) made() bool { return b != nil && b.self == b }

// Put opens the window of a second, if it is not closed.
func (b *Book) Put(t int64) (int64, api.Errno) {
	if !b.made() {
		return 0, api.ErrNil
	}
	id := floor(t, b.width)
	if id <= b.closed {
		return 0, api.ErrLate
	}
	if _, is := b.open[id]; !is && len(b.open) >= api.MaxCover {
		return 0, api.ErrMany
	}
	b.open[id] = struct{}{}
	return id, api.OK
}

// Close closes all windows up to what a mark closes: the open ones among them, rising.
func (b *Book) Close(mark int64) []int64 {
	if !b.made() {
		return nil
	}
	through, err := Through(mark, b.width)
	if err != api.OK || through <= b.closed {
		return nil
	}
	b.closed = through
	var l []int64
	for id := range b.open {
		if id <= through {
			l = append(l, id)
			delete(b.open, id)
		}
	}
	slices.Sort(l)
	return l
}

// Open are the open ones, rising.
func (b *Book) Open() []int64 {
	if !b.made() {
		return nil
	}
	var l []int64
	for id := range b.open {
		l = append(l, id)
	}
	slices.Sort(l)
	return l
}

// Closed is the last window that is closed.
func (b *Book) Closed() int64 {
	if !b.made() {
		return 0
	}
	return b.closed
}
