package render

import (
	"slices"
	"strings"

	"tumbler/api"
	"tumbler/name"
	"tumbler/wide"
)

// together makes one series of all, each cell of all cells at its place.
func together(reduce reducer) meaning {
	return func(c *call) ([]api.Series, api.Errno) {
		l := c.all()
		if len(l) == 0 {
			return nil, api.OK
		}
		var names []string
		for _, s := range l {
			names = append(names, s.Name)
		}
		one, err := joined(l, c.word+"("+strings.Join(names, ",")+")", reduce)
		if err != api.OK {
			return nil, err
		}
		return []api.Series{one}, api.OK
	}
}

// joined is one series of some, one at least.
func joined(l []api.Series, title string, reduce reducer) (api.Series, api.Errno) {
	for _, s := range l {
		if !alike(s, l[0]) {
			return api.Series{}, api.ErrSteps
		}
	}
	made := like(l[0])
	made.Name = title
	for i := range made.Cells {
		var cells []api.Cell
		for _, s := range l {
			cells = append(cells, s.Cells[i])
		}
		x, err := reduce(values(cells))
		if err != api.OK {
			return api.Series{}, err
		}
		made.Cells[i] = x
	}
	return made, api.OK
}

func alias(c *call, s api.Series) (api.Series, api.Errno) {
	s.Name = c.text()
	return s, api.OK
}

func aliasByNode(c *call, s api.Series) (api.Series, api.Errno) {
	var nodes []string
	for _, a := range c.rest {
		if node, ok := name.Node(s.Name, int(a.Value/api.Unit)); ok {
			nodes = append(nodes, node)
		}
	}
	s.Name = strings.Join(nodes, ".")
	return s, api.OK
}

func sortByName(c *call) ([]api.Series, api.Errno) {
	l := c.all()
	slices.SortStableFunc(l, func(a, b api.Series) int { return strings.Compare(a.Name, b.Name) })
	return l, api.OK
}

// rank is a series and what its values come to.
type rank struct {
	series api.Series
	cell   api.Cell
}

// ranked sorts by what the values come to; series of which that has no value stand behind all others.
func ranked(reduce reducer, falling bool) meaning {
	return func(c *call) ([]api.Series, api.Errno) {
		var ranks []rank
		for _, s := range c.lists[0] {
			x, err := reduce(values(s.Cells))
			if err != api.OK {
				return nil, err
			}
			ranks = append(ranks, rank{s, x})
		}
		slices.SortStableFunc(ranks, func(a, b rank) int {
			switch {
			case a.cell.Is != b.cell.Is:
				return noneLast(a.cell)
			case falling:
				return wide.Cmp(b.cell.Value, a.cell.Value)
			}
			return wide.Cmp(a.cell.Value, b.cell.Value)
		})
		var l []api.Series
		for _, r := range ranks {
			l = append(l, r.series)
		}
		return l, api.OK
	}
}

// noneLast says where a cell stands beside another one, of which just one has a value.
func noneLast(c api.Cell) int {
	if c.Is {
		return -1
	}
	return 1
}

// first keeps the first ones of what a meaning gives.
func first(do meaning) meaning {
	return func(c *call) ([]api.Series, api.Errno) {
		l, err := do(c)
		if err != api.OK {
			return nil, err
		}
		n := min(int(c.whole()), len(l))
		return l[:n:n], api.OK
	}
}

func limit(c *call) ([]api.Series, api.Errno) {
	return first(func(c *call) ([]api.Series, api.Errno) { return c.all(), api.OK })(c)
}

// kept keeps those whose values come to something above the number (sign 1), or below it (-1).
func kept(reduce reducer, sign int) meaning {
	return func(c *call) ([]api.Series, api.Errno) {
		var l []api.Series
		for _, s := range c.lists[0] {
			x, err := reduce(values(s.Cells))
			if err != api.OK {
				return nil, err
			}
			if x.Is && wide.Cmp(x.Value, c.number()) == sign {
				l = append(l, s)
			}
		}
		return l, api.OK
	}
}

// named keeps those in whose names the text stands, or does not.
func named(in bool) meaning {
	return func(c *call) ([]api.Series, api.Errno) {
		var l []api.Series
		for _, s := range c.lists[0] {
			if strings.Contains(s.Name, c.text()) == in {
				l = append(l, s)
			}
		}
		return l, api.OK
	}
}
