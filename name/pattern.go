package name

import (
	"strings"

	"tumbler/api"
)

// Text writes a pattern.
func Text(p api.Pattern) (string, api.Errno) {
	if !may(p) {
		return "", api.ErrPattern
	}
	s := written(p)
	if len(s) > api.MaxPattern {
		return "", api.ErrLong
	}
	return s, api.OK
}

// may tells whether some text, however long, gives the pattern.
func may(p api.Pattern) bool {
	if len(p.Nodes) < 1 || len(p.Nodes) > api.MaxNodes {
		return false
	}
	for _, node := range p.Nodes {
		if len(node) == 0 {
			return false
		}
		for i, g := range node {
			if !mayStand(g) || i > 0 && g.Kind == api.GText && node[i-1].Kind == api.GText {
				return false
			}
		}
	}
	return true
}

// mayStand tells whether a piece may stand in a node.
func mayStand(g api.Glob) bool {
	switch g.Kind {
	case api.GText:
		return g.Text != "" && nameBytes(g.Text) && len(g.Alts) == 0
	case api.GAny, api.GOne:
		return g.Text == "" && len(g.Alts) == 0
	case api.GClass:
		return rising(g.Text) && len(g.Alts) == 0
	case api.GAlts:
		return g.Text == "" && mayChoose(g.Alts)
	}
	return false
}

// nameBytes tells whether it has no others.
func nameBytes(s string) bool {
	for i := range len(s) {
		if !nameByte(s[i]) {
			return false
		}
	}
	return true
}

// rising tells whether it is a class's text: one byte or more, each above the one ahead.
func rising(s string) bool {
	for i := range len(s) {
		if !classByte(s[i]) || i > 0 && s[i] <= s[i-1] {
			return false
		}
	}
	return s != ""
}

// mayChoose tells whether they are a choice's texts.
func mayChoose(alts []string) bool {
	for _, s := range alts {
		if !nameBytes(s) {
			return false
		}
	}
	return len(alts) >= 1 && len(alts) <= api.MaxAlts
}

// written is the text of a pattern that may be.
func written(p api.Pattern) string {
	var out strings.Builder
	for i, node := range p.Nodes {
		if i > 0 {
			out.WriteByte('.')
		}
		for _, g := range node {
			switch g.Kind {
			case api.GText:
				out.WriteString(g.Text)
			case api.GAny:
				out.WriteByte('*')
			case api.GOne:
				out.WriteByte('?')
			case api.GClass:
				out.WriteString("[" + ranges(g.Text) + "]")
			case api.GAlts:
				out.WriteString("{" + strings.Join(g.Alts, ",") + "}")
			}
		}
	}
	return out.String()
}

// ranges is a class's text with its long runs as ranges.
func ranges(s string) string {
	var out strings.Builder
	for s != "" {
		// Bytes of other sorts never stand next to one another.
		n := 1
		for n < len(s) && s[n] == s[n-1]+1 {
			n++
		}
		if n < 3 {
			out.WriteString(s[:n])
		} else {
			out.WriteString(s[:1] + "-" + s[n-1:n])
		}
		s = s[n:]
	}
	return out.String()
}

// Plain is the name of a pattern of texts alone.
func Plain(p api.Pattern) (string, bool) {
	if !may(p) {
		return "", false
	}
	for _, node := range p.Nodes {
		if len(node) != 1 || node[0].Kind != api.GText {
			return "", false
		}
	}
	s := written(p)
	if !Valid(s) {
		return "", false
	}
	return s, true
}
