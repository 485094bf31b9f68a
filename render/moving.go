package render

import (
	"tumbler/api"
	"tumbler/wide"
)

// moved goes through the cells with the sum of the last ones and how many of them have values.
func moved(c *call, s api.Series, tell func(sum api.Wide, n int64) (api.Cell, api.Errno)) (api.Series, api.Errno) {
	made := like(s)
	by := int(c.whole())
	var sum api.Wide
	n := int64(0)
	for i, cell := range s.Cells {
		// What comes and what goes are summed at once: with the one alone there may be no room.
		parts := []api.Wide{sum}
		if cell.Is {
			parts = append(parts, cell.Value)
			n++
		}
		if i >= by && s.Cells[i-by].Is {
			parts = less(parts, s.Cells[i-by].Value)
			n--
		}
		next, err := wide.Sum(parts...)
		if err != api.OK {
			return api.Series{}, err
		}
		sum = next
		if n == 0 {
			continue
		}
		x, err := tell(sum, n)
		if err != api.OK {
			return api.Series{}, err
		}
		made.Cells[i] = x
	}
	return made, api.OK
}

func movingSum(c *call, s api.Series) (api.Series, api.Errno) {
	return moved(c, s, func(sum api.Wide, _ int64) (api.Cell, api.Errno) { return is(sum, api.OK) })
}

func movingAverage(c *call, s api.Series) (api.Series, api.Errno) {
	return moved(c, s, func(sum api.Wide, n int64) (api.Cell, api.Errno) { return is(quotient(sum, wide.Of(n))) })
}

// peak goes through the cells with the first in order of the values of the last ones; sign: 1 for the greatest.
func peak(c *call, s api.Series, sign int) (api.Series, api.Errno) {
	made := like(s)
	by := int(c.whole())
	var best []int // places, rising, of values each of which is ahead of all behind it in order
	for i, cell := range s.Cells {
		if cell.Is {
			for len(best) > 0 && sign*wide.Cmp(s.Cells[best[len(best)-1]].Value, cell.Value) <= 0 {
				best = best[:len(best)-1]
			}
			best = append(best, i)
		}
		for len(best) > 0 && best[0] <= i-by {
			best = best[1:]
		}
		if len(best) > 0 {
			made.Cells[i] = s.Cells[best[0]]
		}
	}
	return made, api.OK
}

func movingMax(c *call, s api.Series) (api.Series, api.Errno) { return peak(c, s, 1) }

func movingMin(c *call, s api.Series) (api.Series, api.Errno) { return peak(c, s, -1) }
