package daemon

import (
	"tumbler/api"
	"tumbler/flush"
	"tumbler/graphite"
	"tumbler/micro"
	"tumbler/window"
)

func (p *player) from(c command) { p.source = c.words[0] }

func (p *player) datagram(c command) {
	verdicts, err := p.engine.Feed(api.Input{Kind: api.InPacket, Source: p.source, Data: []byte(c.block)})
	if p.refused(err) {
		return
	}
	var words []string
	for _, v := range verdicts {
		words = append(words, verdictWord(v))
	}
	if len(words) == 0 {
		words = []string{"nothing"}
	}
	p.tell(words...)
	p.goThrough()
}

func verdictWord(v api.Verdict) string {
	switch v {
	case api.VAccepted:
		return "accepted"
	case api.VMalformed:
		return "malformed"
	case api.VFuture:
		return "future"
	case api.VSource:
		return "source"
	case api.VLate:
		return "late"
	case api.VSeries:
		return "series"
	}
	return "gauge"
}

func (p *player) tick(c command) {
	now := number(c.words[0])
	_, err := p.engine.Feed(api.Input{Kind: api.InTick, Now: now})
	p.ok(err)
	if err == api.OK {
		p.now = now
		p.goThrough()
	}
}

func (p *player) shut(command) {
	_, err := p.engine.Feed(api.Input{Kind: api.InShut})
	p.ok(err)
	if err == api.OK {
		p.goThrough()
	}
}

// goThrough goes through the windows that have come out since.
func (p *player) goThrough() {
	p.engine.Drain()
	l := p.engine.Windows()
	for _, w := range l[p.windows:] {
		if err := p.window(w); err != api.OK {
			p.tell("window", digits(w.ID), "error", err.Error())
		}
	}
	p.windows = len(l)
}

// window lets a window's records go where they go; with an error nothing is done.
func (p *player) window(w api.Window) api.Errno {
	width := p.settings.Gate.Width
	records, err := flush.Records(w, width, p.settings.Flush)
	if err != api.OK {
		return err
	}
	frame, err := graphite.Encode(records)
	if err != api.OK {
		return err
	}
	begin, err := window.Begin(w.ID, width)
	if err != api.OK {
		return err
	}
	p.out.Frame(w.ID, frame) // windows rise: none is refused
	stored := 0
	for _, r := range records {
		if p.store.Write(r, max(p.now, r.Time)) == api.OK {
			stored++
		}
		p.dealer.Put(r) // nobody deals, if there is no relay
	}
	p.tell("window", digits(w.ID), "records", digits(len(records)), "stored", digits(stored))
	p.alarms(begin, records)
	return api.OK
}

// alarms holds the records of a second against all rules.
func (p *player) alarms(at int64, records []api.Record) {
	for _, rule := range p.settings.Alarms {
		var c api.Cell
		for _, r := range records {
			if r.Path == rule.Name {
				c = api.Cell{Is: true, Value: r.Value}
			}
		}
		alerts, _ := p.book.Feed(rule.Name, at, c) // of a rule that refuses the point nothing is said
		for _, a := range alerts {
			words := []string{"alarm", a.Name, stateWord(a.From), stateWord(a.To), "at", digits(a.Time)}
			if a.Again {
				words = append(words, "again")
			}
			p.tell(append(words, cellWord(a.Value))...)
		}
	}
}

func stateWord(s api.State) string {
	switch s {
	case api.SFine:
		return "fine"
	case api.SWarn:
		return "warn"
	case api.SCrit:
		return "crit"
	}
	return "none"
}

// cellWord is a cell's value, or - for none.
func cellWord(c api.Cell) string {
	if !c.Is {
		return "-"
	}
	return micro.Show(c.Value)
}
