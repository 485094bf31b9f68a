package flush

import (
	"tumbler/api"
	"tumbler/timer"
)

func (r *teller) counter(t api.Tally) api.Errno {
	r.put(".count", t.Sum)
	r.rate(t.Sum)
	return api.OK
}

func (r *teller) gauge(t api.Tally) api.Errno {
	r.put("", t.Sum)
	return api.OK
}

func (r *teller) set(t api.Tally) api.Errno {
	r.many(".count", len(t.Members))
	return api.OK
}

func (r *teller) timer(t api.Tally) api.Errno {
	stats, err := timer.Of(t.Samples)
	if err != api.OK {
		return err
	}
	r.put(".count", t.Weight)
	r.rate(t.Weight)
	r.small(".lower", stats.Lower)
	r.small(".upper", stats.Upper)
	r.small(".mean", stats.Mean)
	r.small(".median", stats.Median)
	r.small(".std", stats.Dev)
	r.put(".sum", stats.Sum)
	for _, p := range r.settings.Percents {
		if err := r.percent(t.Samples, p); err != api.OK {
			return err
		}
	}
	return r.bins(t.Samples)
}

// percent tells of the lowest or the greatest samples.
func (r *teller) percent(samples []int64, p int64) api.Errno {
	share, err := timer.Upto(samples, p)
	if err != api.OK {
		return err
	}
	l := percentLabel(p)
	r.many(".count_"+l, share.Count)
	r.small(".mean_"+l, share.Mean)
	r.put(".sum_"+l, share.Sum)
	if p > 0 {
		r.small(".upper_"+l, share.Edge)
	} else {
		r.small(".lower_"+l, share.Edge)
	}
	return api.OK
}

// bins tells how many samples lie between the bounds.
func (r *teller) bins(samples []int64) api.Errno {
	bounds := r.settings.Bounds
	if len(bounds) == 0 {
		return api.OK
	}
	counts, err := timer.Bins(samples, bounds)
	if err != api.OK {
		return err
	}
	for i, n := range counts {
		l := "inf"
		if i < len(bounds) {
			l = label(bounds[i])
		}
		r.many(".histogram.bin_"+l, n)
	}
	return api.OK
}
