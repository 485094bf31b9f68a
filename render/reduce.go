package render

import (
	"slices"

	"tumbler/api"
	"tumbler/wide"
)

// reducer makes one cell of some values, in order.
type reducer func(l []api.Wide) (api.Cell, api.Errno)

// is is a cell with a value; it passes an error on.
func is(v api.Wide, err api.Errno) (api.Cell, api.Errno) {
	if err != api.OK {
		return api.Cell{}, err
	}
	return api.Cell{Is: true, Value: v}, api.OK
}

// values are those of some cells, in order.
func values(cells []api.Cell) []api.Wide {
	var l []api.Wide
	for _, c := range cells {
		if c.Is {
			l = append(l, c.Value)
		}
	}
	return l
}

func sum(l []api.Wide) (api.Cell, api.Errno) {
	if len(l) == 0 {
		return api.Cell{}, api.OK
	}
	return is(wide.Sum(l...))
}

// total is the sum, of no values 0.
func total(l []api.Wide) (api.Cell, api.Errno) {
	return is(wide.Sum(l...))
}

func average(l []api.Wide) (api.Cell, api.Errno) {
	s, err := sum(l)
	if err != api.OK || !s.Is {
		return api.Cell{}, err
	}
	return is(quotient(s.Value, wide.Of(int64(len(l)))))
}

// quotient is a by b, cut.
func quotient(a, b api.Wide) (api.Wide, api.Errno) {
	q, _, err := wide.Quo(a, b)
	return q, err
}

func greatest(l []api.Wide) (api.Cell, api.Errno) {
	if len(l) == 0 {
		return api.Cell{}, api.OK
	}
	return is(slices.MaxFunc(l, wide.Cmp), api.OK)
}

func least(l []api.Wide) (api.Cell, api.Errno) {
	if len(l) == 0 {
		return api.Cell{}, api.OK
	}
	return is(slices.MinFunc(l, wide.Cmp), api.OK)
}

func last(l []api.Wide) (api.Cell, api.Errno) {
	if len(l) == 0 {
		return api.Cell{}, api.OK
	}
	return is(l[len(l)-1], api.OK)
}

// difference is the first less all others.
func difference(l []api.Wide) (api.Cell, api.Errno) {
	if len(l) == 0 {
		return api.Cell{}, api.OK
	}
	parts := []api.Wide{l[0]}
	for _, v := range l[1:] {
		parts = less(parts, v)
	}
	return is(wide.Sum(parts...))
}

// less puts -v behind what is summed, as two numbers: it may have no room as one.
func less(parts []api.Wide, v api.Wide) []api.Wide {
	below, _ := wide.Sub(wide.Of(-1), v) // -1 - v always has room
	return append(parts, below, wide.Of(1))
}

// span is the greatest less the least.
func span(l []api.Wide) (api.Cell, api.Errno) {
	if len(l) == 0 {
		return api.Cell{}, api.OK
	}
	return is(wide.Sub(slices.MaxFunc(l, wide.Cmp), slices.MinFunc(l, wide.Cmp)))
}

func count(l []api.Wide) (api.Cell, api.Errno) {
	return is(wide.Of(int64(len(l))*api.Unit), api.OK)
}
