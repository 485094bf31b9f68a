package daemon

import (
	"tumbler/api"
	"tumbler/name"
	"tumbler/render"
	"tumbler/target"
)

func (p *player) ledger(command) {
	l := p.engine.Ledger()
	p.tell("lines", digits(l.Lines), "accepted", digits(l.Accepted), "malformed", digits(l.Malformed), "future", digits(l.Future),
		"source", digits(l.Source), "late", digits(l.Late), "series", digits(l.Series), "gauge", digits(l.Gauge))
}

func (p *player) find(c command) {
	pattern, _, err := name.Compile(c.words[0])
	if p.refused(err) {
		return
	}
	for _, f := range p.store.Find(pattern) {
		kind := "branch"
		if f.Leaf {
			kind = "leaf"
		}
		p.tell(kind, f.Name)
	}
}

func (p *player) render(c command) {
	from, until := number(c.words[0]), number(c.words[1])
	e, _, err := target.Parse(behind(c.line, 3))
	if p.refused(err) {
		return
	}
	l, err := render.Eval(e, func(pattern api.Pattern) []api.Series {
		l, _ := p.store.Fetch(pattern, from, until, p.now) // with an error there are none
		return l
	})
	if p.refused(err) {
		return
	}
	for _, s := range l {
		words := []string{s.Name, digits(s.From), digits(s.Step)}
		for _, cell := range s.Cells {
			words = append(words, cellWord(cell))
		}
		p.tell(words...)
	}
}

func (p *player) names(command) {
	for _, n := range p.store.Names() {
		p.tell(n)
	}
}

func (p *player) sink(command) {
	r := p.out.Report()
	for _, c := range r.Conns {
		state := "open"
		if c.Failed {
			state = "failed"
		}
		p.tell("connection", digits(len(c.Bytes)), state)
	}
	p.tell(append([]string{"whole"}, allDigits(r.Whole)...)...)
	p.tell(append([]string{"lost"}, allDigits(r.Lost)...)...)
	p.tell("writes", digits(r.Writes))
}

// allDigits are those of some whole numbers.
func allDigits(l []int64) []string {
	var words []string
	for _, n := range l {
		words = append(words, digits(n))
	}
	return words
}

func (p *player) mute(c command) { p.ok(p.book.Mute(c.words[0], number(c.words[1]))) }

func (p *player) state(c command) {
	s, is := p.book.State(c.words[0])
	if !is {
		p.refused(api.ErrUnknown)
		return
	}
	p.tell(stateWord(s))
}

// noRelay tells of it, if there is none.
func (p *player) noRelay() bool {
	return p.dealer == nil && p.refused(api.ErrNode)
}

func (p *player) down(c command) {
	if !p.noRelay() {
		p.ok(p.dealer.Down(c.words[0]))
	}
}

func (p *player) up(c command) {
	if !p.noRelay() {
		p.ok(p.dealer.Up(c.words[0]))
	}
}

func (p *player) take(c command) {
	if p.noRelay() {
		return
	}
	l, err := p.dealer.Take(c.words[0], int(number(c.words[1])))
	if !p.refused(err) {
		p.tell("taken", digits(len(l)))
	}
}

func (p *player) relay(command) {
	if p.noRelay() {
		return
	}
	for _, c := range p.dealer.Counts() {
		state := "down"
		if c.Up {
			state = "up"
		}
		p.tell(c.Node, state, digits(c.Held), digits(c.Sent), digits(c.Dropped))
	}
}
