package name

import "tumbler/api"

// Compile reads a pattern; with an error the place.
func Compile(s string) (api.Pattern, int, api.Errno) {
	if len(s) > api.MaxPattern {
		return api.Pattern{}, api.MaxPattern, api.ErrLong
	}
	r := &reader{s: s}
	var p api.Pattern
	for {
		node, err := r.node()
		if err == api.OK && r.at < len(s) && len(p.Nodes)+1 == api.MaxNodes {
			err = api.ErrMany
		}
		if err != api.OK {
			return api.Pattern{}, r.at, err
		}
		p.Nodes = append(p.Nodes, node)
		if r.at == len(s) {
			return p, 0, api.OK
		}
		r.at++
	}
}

// reader goes through a pattern's text; with a fault it stays where that is.
type reader struct {
	s  string
	at int
}

// next is the byte that stands here; 0, which no pattern has, at the end.
func (r *reader) next() byte {
	if r.at == len(r.s) {
		return 0
	}
	return r.s[r.at]
}

// node reads up to a point or the end.
func (r *reader) node() ([]api.Glob, api.Errno) {
	var l []api.Glob
	for r.at < len(r.s) && r.next() != '.' {
		g, err := r.piece()
		if err != api.OK {
			return nil, err
		}
		l = append(l, g)
	}
	if len(l) == 0 {
		return nil, api.ErrPattern
	}
	return l, api.OK
}

// piece reads one piece of a node.
func (r *reader) piece() (api.Glob, api.Errno) {
	switch r.next() {
	case '*':
		r.at++
		return api.Glob{Kind: api.GAny}, api.OK
	case '?':
		r.at++
		return api.Glob{Kind: api.GOne}, api.OK
	case '[':
		r.at++
		return r.class()
	case '{':
		r.at++
		return r.choice()
	}
	text := r.text()
	if text == "" {
		return api.Glob{}, api.ErrPattern
	}
	return api.Glob{Kind: api.GText, Text: text}, api.OK
}

// text reads as many name bytes as there are.
func (r *reader) text() string {
	from := r.at
	for nameByte(r.next()) {
		r.at++
	}
	return r.s[from:r.at]
}

// class reads from behind the bracket that opens it.
func (r *reader) class() (api.Glob, api.Errno) {
	var in [128]bool
	for {
		low, high, err := r.item()
		if err != api.OK {
			return api.Glob{}, err
		}
		for b := low; b <= high; b++ {
			in[b] = true
		}
		if r.next() == ']' {
			break
		}
	}
	r.at++
	var text []byte
	for b, is := range in {
		if is {
			text = append(text, byte(b))
		}
	}
	return api.Glob{Kind: api.GClass, Text: string(text)}, api.OK
}

// item reads a byte of a class, or a range: its first and its last byte.
func (r *reader) item() (byte, byte, api.Errno) {
	low := r.next()
	if !classByte(low) {
		return 0, 0, api.ErrPattern
	}
	r.at++
	if r.next() != '-' {
		return low, low, api.OK
	}
	if family(low) == 0 {
		return 0, 0, api.ErrPattern
	}
	r.at++
	high := r.next()
	if family(high) != family(low) || high < low {
		return 0, 0, api.ErrPattern
	}
	r.at++
	return low, high, api.OK
}

// choice reads from behind the brace that opens it.
func (r *reader) choice() (api.Glob, api.Errno) {
	g := api.Glob{Kind: api.GAlts}
	for {
		g.Alts = append(g.Alts, r.text())
		switch {
		case r.next() == '}':
			r.at++
			return g, api.OK
		case r.next() != ',':
			return api.Glob{}, api.ErrPattern
		case len(g.Alts) == api.MaxAlts:
			return api.Glob{}, api.ErrMany
		}
		r.at++
	}
}
