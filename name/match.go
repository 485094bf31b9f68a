package name

import (
	"strings"

	"tumbler/api"
)

// Match tells whether a name is of a pattern.
func Match(p api.Pattern, s string) bool {
	nodes := Nodes(s)
	if len(nodes) != len(p.Nodes) || !may(p) {
		return false
	}
	for i, node := range nodes {
		if !matchNode(p.Nodes[i], node) {
			return false
		}
	}
	return true
}

// matchNode tells whether the pieces, one behind the other, make the node.
func matchNode(pieces []api.Glob, node string) bool {
	// All places that can be reached are gone on from at once: so no way to one is tried twice.
	reached := make([]bool, len(node)+1)
	reached[0] = true
	for _, g := range pieces {
		next := make([]bool, len(node)+1)
		try := trial(g, node)
		for at, is := range reached {
			if is {
				try(at, func(to int) { next[to] = true })
			}
		}
		reached = next
	}
	return reached[len(node)]
}

// trial is how a piece is tried at a place of a node: it hands on each place at which it can end.
func trial(g api.Glob, node string) func(at int, hand func(to int)) {
	switch g.Kind {
	case api.GAny:
		return func(at int, hand func(int)) {
			for to := at; to <= len(node); to++ {
				hand(to)
			}
		}
	case api.GOne:
		return func(at int, hand func(int)) {
			if at < len(node) {
				hand(at + 1)
			}
		}
	case api.GClass:
		return func(at int, hand func(int)) {
			if at < len(node) && strings.IndexByte(g.Text, node[at]) >= 0 {
				hand(at + 1)
			}
		}
	case api.GAlts:
		return func(at int, hand func(int)) {
			for _, s := range g.Alts {
				if strings.HasPrefix(node[at:], s) {
					hand(at + len(s))
				}
			}
		}
	}
	return func(at int, hand func(int)) {
		if strings.HasPrefix(node[at:], g.Text) {
			hand(at + len(g.Text))
		}
	}
}
