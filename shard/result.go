// Package shard is layer 14: a shard at work, and the merger of all.
package shard

import "tumbler/api"

// result is what a shard tells: a window, a bound or an end.
type result interface {
	kind() api.ResultKind
}

// window is a closed window of a shard.
type window api.Window

// bound says that nothing comes any more of windows up to one.
type bound struct{ window int64 }

// end says that nothing comes any more.
type end struct{}

func (window) kind() api.ResultKind { return api.RWindow }
func (bound) kind() api.ResultKind  { return api.RMark }
func (end) kind() api.ResultKind    { return api.REnd }

// told is a result as it goes out.
func told(r result) api.Result {
	out := api.Result{Kind: r.kind()}
	switch x := r.(type) {
	case window:
		out.Window, out.Tallies = x.ID, x.Tallies
	case bound:
		out.Window = x.window
	}
	return out
}

// heard is a result that has come in; nil, if it is none of the three.
func heard(r api.Result) result {
	switch r.Kind {
	case api.RWindow:
		return window{ID: r.Window, Tallies: r.Tallies}
	case api.RMark:
		return bound{r.Window}
	case api.REnd:
		return end{}
	}
	return nil
}
