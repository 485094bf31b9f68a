package render

import (
	"tumbler/api"
	"tumbler/name"
	"tumbler/wide"
)

// reducerOf is the one of a word; nil: there is none.
func reducerOf(word string) reducer {
	switch word {
	case "sum":
		return sum
	case "avg":
		return average
	case "max":
		return greatest
	case "min":
		return least
	}
	return nil
}

func summarize(c *call) ([]api.Series, api.Errno) {
	reduce := reducerOf(c.text())
	if c.text() == "last" {
		reduce = last
	}
	if reduce == nil {
		return nil, api.ErrWord
	}
	return bySeries(func(c *call, s api.Series) (api.Series, api.Errno) {
		by := c.whole()
		if by == 0 || by%s.Step != 0 {
			return api.Series{}, api.ErrArg
		}
		return summarized(s, by, reduce)
	})(c)
}

// summarized makes a cell of all cells that lie in the same of the runs of by seconds. No run is longer than by, which
// is a multiple of the step: each has a cell.
func summarized(s api.Series, by int64, reduce reducer) (api.Series, api.Errno) {
	made := api.Series{Name: s.Name, From: s.From / by * by, Step: by}
	for i := 0; i < len(s.Cells); {
		run := (s.From + int64(i)*s.Step) / by
		end := i
		for end < len(s.Cells) && (s.From+int64(end)*s.Step)/by == run {
			end++
		}
		x, err := reduce(values(s.Cells[i:end]))
		if err != api.OK {
			return api.Series{}, err
		}
		made.Cells = append(made.Cells, x)
		i = end
	}
	return made, api.OK
}

func groupByNode(c *call) ([]api.Series, api.Errno) {
	reduce := reducerOf(c.text())
	switch c.text() {
	case "diff":
		reduce = difference
	case "range":
		reduce = span
	case "count":
		reduce = count
	}
	if reduce == nil {
		return nil, api.ErrWord
	}
	var nodes []string
	groups := map[string][]api.Series{}
	for _, s := range c.lists[0] {
		node, ok := name.Node(s.Name, int(c.whole()))
		if !ok {
			continue
		}
		if len(groups[node]) == 0 {
			nodes = append(nodes, node)
		}
		groups[node] = append(groups[node], s)
	}
	var l []api.Series
	for _, node := range nodes {
		one, err := joined(groups[node], node, reduce)
		if err != api.OK {
			return nil, err
		}
		l = append(l, one)
	}
	return l, api.OK
}

func divideSeries(c *call) ([]api.Series, api.Errno) {
	if len(c.lists[1]) != 1 {
		return nil, api.ErrCount
	}
	by := c.lists[1][0]
	return bySeries(func(_ *call, s api.Series) (api.Series, api.Errno) {
		if !alike(s, by) {
			return api.Series{}, api.ErrSteps
		}
		made := like(s)
		made.Name = "divideSeries(" + s.Name + "," + by.Name + ")"
		for i, cell := range s.Cells {
			d := by.Cells[i]
			if !cell.Is || !d.Is || wide.Sign(d.Value) == 0 {
				continue
			}
			x, err := is(product(cell.Value, wide.Of(api.Unit), d.Value))
			if err != api.OK {
				return api.Series{}, err
			}
			made.Cells[i] = x
		}
		return made, api.OK
	})(c)
}
