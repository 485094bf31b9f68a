package archive

import (
	"slices"

	"tumbler/api"
	"tumbler/wide"
)

// rollOf is how a method rolls up values, one at least; nil, if there is no such method.
func rollOf(m api.Method) func([]api.Wide) (api.Wide, api.Errno) {
	switch m {
	case api.MAverage:
		return average
	case api.MSum:
		return func(l []api.Wide) (api.Wide, api.Errno) { return wide.Sum(l...) }
	case api.MLast:
		return func(l []api.Wide) (api.Wide, api.Errno) { return l[len(l)-1], api.OK }
	case api.MMax:
		return func(l []api.Wide) (api.Wide, api.Errno) { return slices.MaxFunc(l, wide.Cmp), api.OK }
	case api.MMin:
		return func(l []api.Wide) (api.Wide, api.Errno) { return slices.MinFunc(l, wide.Cmp), api.OK }
	}
	return nil
}

// average is the sum divided by how many there are, cut.
func average(l []api.Wide) (api.Wide, api.Errno) {
	s, err := wide.Sum(l...)
	if err != api.OK {
		return api.Wide{}, err
	}
	q, _, err := wide.Quo(s, wide.Of(int64(len(l))))
	return q, err
}
