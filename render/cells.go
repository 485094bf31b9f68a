package render

import (
	"tumbler/api"
	"tumbler/wide"
)

// bySeries makes of each series of the first argument one.
func bySeries(change func(c *call, s api.Series) (api.Series, api.Errno)) meaning {
	return func(c *call) ([]api.Series, api.Errno) {
		var l []api.Series
		for _, s := range c.lists[0] {
			made, err := change(c, s)
			if err != api.OK {
				return nil, err
			}
			l = append(l, made)
		}
		return l, api.OK
	}
}

// byValue makes of each value a cell.
func byValue(change func(c *call, s api.Series, v api.Wide) (api.Cell, api.Errno)) meaning {
	return bySeries(func(c *call, s api.Series) (api.Series, api.Errno) {
		made := like(s)
		for i, cell := range s.Cells {
			if !cell.Is {
				continue
			}
			x, err := change(c, s, cell.Value)
			if err != api.OK {
				return api.Series{}, err
			}
			made.Cells[i] = x
		}
		return made, api.OK
	})
}

func absolute(_ *call, _ api.Series, v api.Wide) (api.Cell, api.Errno) {
	return is(wide.Abs(v))
}

// product is v times n by d, cut.
func product(v, n, d api.Wide) (api.Wide, api.Errno) {
	p, err := wide.Mul(v, n)
	if err != api.OK {
		return api.Wide{}, err
	}
	return quotient(p, d)
}

func scale(c *call, _ api.Series, v api.Wide) (api.Cell, api.Errno) {
	return is(product(v, c.number(), wide.Of(api.Unit)))
}

func offset(c *call, _ api.Series, v api.Wide) (api.Cell, api.Errno) {
	return is(wide.Add(v, c.number()))
}

func scaleToSeconds(c *call, s api.Series, v api.Wide) (api.Cell, api.Errno) {
	return is(product(v, wide.Of(c.whole()), wide.Of(s.Step)))
}

func removeBelow(c *call, _ api.Series, v api.Wide) (api.Cell, api.Errno) {
	if wide.Cmp(v, c.number()) < 0 {
		return api.Cell{}, api.OK
	}
	return is(v, api.OK)
}

func removeAbove(c *call, _ api.Series, v api.Wide) (api.Cell, api.Errno) {
	if wide.Cmp(v, c.number()) > 0 {
		return api.Cell{}, api.OK
	}
	return is(v, api.OK)
}

// byStep makes of each value and the one a place ahead a cell, of their difference.
func byStep(change func(s api.Series, d api.Wide) (api.Cell, api.Errno)) meaning {
	return bySeries(func(_ *call, s api.Series) (api.Series, api.Errno) {
		made := like(s)
		for i := 1; i < len(s.Cells); i++ {
			if !s.Cells[i].Is || !s.Cells[i-1].Is {
				continue
			}
			d, err := wide.Sub(s.Cells[i].Value, s.Cells[i-1].Value)
			if err != api.OK {
				return api.Series{}, err
			}
			x, err := change(s, d)
			if err != api.OK {
				return api.Series{}, err
			}
			made.Cells[i] = x
		}
		return made, api.OK
	})
}

func derivative(_ api.Series, d api.Wide) (api.Cell, api.Errno) {
	return is(d, api.OK)
}

func nonNegative(_ api.Series, d api.Wide) (api.Cell, api.Errno) {
	if wide.Sign(d) < 0 {
		return api.Cell{}, api.OK
	}
	return is(d, api.OK)
}

// perSecond is the difference that is not below 0 by the step.
func perSecond(s api.Series, d api.Wide) (api.Cell, api.Errno) {
	if wide.Sign(d) < 0 {
		return api.Cell{}, api.OK
	}
	return is(quotient(d, wide.Of(s.Step)))
}

func integral(_ *call, s api.Series) (api.Series, api.Errno) {
	made := like(s)
	var sum api.Wide
	for i, c := range s.Cells {
		if !c.Is {
			continue
		}
		next, err := wide.Add(sum, c.Value)
		if err != api.OK {
			return api.Series{}, err
		}
		sum = next
		made.Cells[i] = api.Cell{Is: true, Value: sum}
	}
	return made, api.OK
}

func changed(_ *call, s api.Series) (api.Series, api.Errno) {
	made := like(s)
	var ahead api.Cell
	for i, c := range s.Cells {
		made.Cells[i].Is = true
		if !c.Is {
			continue
		}
		if ahead.Is && ahead != c {
			made.Cells[i].Value = wide.Of(api.Unit)
		}
		ahead = c
	}
	return made, api.OK
}

func transformNull(c *call, s api.Series) (api.Series, api.Errno) {
	made := like(s)
	for i, cell := range s.Cells {
		made.Cells[i] = cell
		if !cell.Is {
			made.Cells[i] = api.Cell{Is: true, Value: c.number()}
		}
	}
	return made, api.OK
}

func keepLastValue(c *call, s api.Series) (api.Series, api.Errno) {
	most := len(s.Cells)
	if len(c.rest) > 0 {
		most = int(c.whole())
	}
	made := like(s)
	copy(made.Cells, s.Cells)
	for i := 0; i < len(s.Cells); {
		run := i
		for run < len(s.Cells) && !s.Cells[run].Is {
			run++
		}
		if i > 0 && run-i <= most {
			for j := i; j < run; j++ {
				made.Cells[j] = s.Cells[i-1]
			}
		}
		i = run + 1
	}
	return made, api.OK
}

func delay(c *call, s api.Series) (api.Series, api.Errno) {
	made := like(s)
	by := int(c.whole())
	for i := by; i < len(s.Cells); i++ {
		made.Cells[i] = s.Cells[i-by]
	}
	return made, api.OK
}
