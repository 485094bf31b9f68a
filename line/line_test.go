package line_test

import (
	"math/rand"
	"strings"
	"testing"

	"tumbler/api"
	"tumbler/line"
)

func event(n string, k api.Kind, v int64) api.Event {
	return api.Event{Name: n, Kind: k, Value: v, Rate: api.Unit}
}

func with(e api.Event, change func(*api.Event)) api.Event {
	change(&e)
	return e
}

func TestP4_1_Events(t *testing.T) {
	delta := func(v int64) api.Event {
		return with(event("a", api.KGauge, v), func(e *api.Event) { e.Delta = true })
	}
	longest := strings.Repeat("~", 100)
	for s, want := range map[string]api.Event{
		"a.b:1.5|c|@0.1":                        with(event("a.b", api.KCounter, 1500000), func(e *api.Event) { e.Rate = 100000 }),
		"a:+2|g":                                delta(2000000),
		"a:-2|g":                                delta(-2000000),
		"a:3|c|T1099511627775":                  {Name: "a", Kind: api.KCounter, Value: 3000000, Rate: api.Unit, Timed: true, Time: api.MaxStamp},
		"a:2|g":                                 event("a", api.KGauge, 2000000),
		"a:-0|g":                                delta(0),
		"a:+007.50|g":                           delta(7500000),
		"a:12|ms|@0.5|T100":                     {Name: "a", Kind: api.KTimer, Value: 12000000, Rate: 500000, Timed: true, Time: 100},
		"a:-0|ms":                               event("a", api.KTimer, 0),
		"a:100000000|ms":                        event("a", api.KTimer, api.MaxTimer),
		"a:x:y z|s":                             {Name: "a", Kind: api.KSet, Member: "x:y z", Rate: api.Unit},
		"a:" + longest + "|s|T0001099511627775": {Name: "a", Kind: api.KSet, Member: longest, Rate: api.Unit, Timed: true, Time: api.MaxStamp},
		"a:-1000000000|c|@1.0":                  event("a", api.KCounter, -api.MaxValue),
		"a:1|c|@0.001|T" + strings.Repeat("0", 500): {Name: "a", Kind: api.KCounter, Value: 1000000, Rate: 1000, Timed: true},
		"a b/c:1|c":                         event("a_b-c", api.KCounter, 1000000),
		strings.Repeat("é", 509) + "aa:1|c": event("aa", api.KCounter, 1000000),
	} {
		if e, place, err := line.Parse(s); e != want || place != 0 || err != api.OK {
			t.Errorf("Parse(%q) = %+v, %d, %d; want %+v", s, e, place, err, want)
		}
	}
}

func TestP4_1_Faults(t *testing.T) {
	for _, c := range []struct {
		s     string
		err   api.Errno
		place int
	}{
		{"a", api.ErrNoValue, 1}, {"", api.ErrNoValue, 0}, {":1|c", api.ErrBadName, 0}, {"é:1|c", api.ErrBadName, 0}, {":", api.ErrBadName, 0}, {"a:1", api.ErrBadKind, 3}, {"a:", api.ErrBadKind, 2},
		{"a:1|q", api.ErrBadKind, 4}, {"a:1|", api.ErrBadKind, 4}, {"a:x|q", api.ErrBadKind, 4}, {"a:1|C", api.ErrBadKind, 4}, {"a:1||c", api.ErrBadKind, 4}, {"ab:1|m", api.ErrBadKind, 5},
		{"a:|c", api.ErrBadValue, 2}, {"a:+1|c", api.ErrBadValue, 2}, {"a:-1|ms", api.ErrBadValue, 2}, {"a:|s", api.ErrBadValue, 2}, {"a:+-1|g", api.ErrBadValue, 2}, {"a:++1|g", api.ErrBadValue, 2},
		{"a:+|g", api.ErrBadValue, 2}, {"a:+1|ms", api.ErrBadValue, 2}, {"a:100000000.000001|ms", api.ErrBadValue, 2}, {"a:1000000000.1|c", api.ErrBadValue, 2}, {"a:1.1234567|g", api.ErrBadValue, 2},
		{"a:é|s", api.ErrBadValue, 2}, {"a:\x1f|s", api.ErrBadValue, 2}, {"a:\x7f|s", api.ErrBadValue, 2}, {"a:" + strings.Repeat("x", 101) + "|s", api.ErrBadValue, 2}, {"abc:x|c|z", api.ErrBadValue, 4},
		{"a:1|c|", api.ErrBadField, 6}, {"a:1|c|T1|@1", api.ErrBadField, 9}, {"a:1|c|@1|@1", api.ErrBadField, 9}, {"a:1|c|T1|T1", api.ErrBadField, 9}, {"a:1|c|@1|T1|", api.ErrBadField, 12}, {"a:1|c|x", api.ErrBadField, 6},
		{"a:1|c|t1", api.ErrBadField, 6}, {"a:1|c| @1", api.ErrBadField, 6}, {"a:x|s|T1|@1", api.ErrBadField, 9}, {"a:1|c|T1|@x", api.ErrBadField, 9},
		{"a:1|g|@1", api.ErrBadRate, 6}, {"a:1|s|@1", api.ErrBadRate, 6}, {"a:1|c|@0.0001", api.ErrBadRate, 6}, {"a:1|c|@1.000001", api.ErrBadRate, 6}, {"a:1|c|@", api.ErrBadRate, 6}, {"a:1|c|@x", api.ErrBadRate, 6}, {"a:1|ms|@-1", api.ErrBadRate, 7},
		{"a:1|c|@0.000999", api.ErrBadRate, 6}, {"a:1|c|T", api.ErrBadStamp, 6}, {"a:1|c|T-1", api.ErrBadStamp, 6}, {"a:1|c|T1099511627776", api.ErrBadStamp, 6}, {"a:1|c|@1|Tx", api.ErrBadStamp, 9}, {"a:1|c|T1.0", api.ErrBadStamp, 6},
		{"a:1|c|T" + strings.Repeat("9", 400), api.ErrBadStamp, 6}, {"a:1|c|T18446744073709551617", api.ErrBadStamp, 6}, {strings.Repeat("a", 1025), api.ErrLong, 0}, {strings.Repeat("a", 1024), api.ErrNoValue, 1024},
	} {
		if e, place, err := line.Parse(c.s); e != (api.Event{}) || place != c.place || err != c.err {
			t.Errorf("Parse(%q) = %+v, %d, %d; want %d at %d", c.s, e, place, err, c.err, c.place)
		}
	}
}

func TestP4_2_Check(t *testing.T) {
	good := event("a", api.KCounter, 1)
	set := api.Event{Name: "a", Kind: api.KSet, Member: "m", Rate: api.Unit}
	for _, c := range []struct {
		e    api.Event
		want api.Errno
	}{
		{good, 0}, {set, 0}, {event("", 0, 1<<62), api.ErrBadName}, {event("a b", api.KCounter, 1), api.ErrBadName}, {event("a", 0, 1<<62), api.ErrBadKind}, {event("a", 5, 1), api.ErrBadKind},
		{event("a", api.KCounter, api.MaxValue), 0}, {event("a", api.KCounter, api.MaxValue+1), api.ErrBadValue}, {event("a", api.KCounter, -api.MaxValue), 0}, {event("a", api.KCounter, -api.MaxValue-1), api.ErrBadValue}, {event("a", api.KGauge, -1<<63), api.ErrBadValue},
		{event("a", api.KTimer, -1), api.ErrBadValue}, {event("a", api.KTimer, api.MaxTimer), 0}, {event("a", api.KTimer, api.MaxTimer+1), api.ErrBadValue}, {event("a", api.KGauge, -1), api.ErrBadValue}, {event("a", api.KGauge, 0), 0},
		{with(event("a", api.KGauge, -1), func(e *api.Event) { e.Delta = true }), 0}, {with(event("a", api.KGauge, -api.MaxValue-1), func(e *api.Event) { e.Delta = true }), api.ErrBadValue},
		{with(good, func(e *api.Event) { e.Delta = true }), api.ErrBadValue}, {with(event("a", api.KTimer, 1), func(e *api.Event) { e.Delta = true }), api.ErrBadValue}, {with(set, func(e *api.Event) { e.Delta = true }), api.ErrBadValue},
		{with(set, func(e *api.Event) { e.Value = 1 }), api.ErrBadValue}, {with(set, func(e *api.Event) { e.Member = "" }), api.ErrBadValue}, {with(set, func(e *api.Event) { e.Member = "a|b" }), api.ErrBadValue},
		{with(good, func(e *api.Event) { e.Member = "m" }), api.ErrBadValue}, {with(event("a", api.KGauge, 1), func(e *api.Event) { e.Member = "m" }), api.ErrBadValue}, {with(event("a", api.KTimer, 1), func(e *api.Event) { e.Member = "m" }), api.ErrBadValue},
		{with(good, func(e *api.Event) { e.Rate = 999 }), api.ErrBadRate}, {with(good, func(e *api.Event) { e.Rate = api.Unit + 1 }), api.ErrBadRate}, {with(good, func(e *api.Event) { e.Rate = 1000 }), 0},
		{with(event("a", api.KGauge, 1), func(e *api.Event) { e.Rate = 1000 }), api.ErrBadRate}, {with(set, func(e *api.Event) { e.Rate = 0 }), api.ErrBadRate}, {with(set, func(e *api.Event) { e.Rate = 1000 }), api.ErrBadRate},
		{with(good, func(e *api.Event) { e.Time = 1 }), api.ErrBadStamp}, {with(good, func(e *api.Event) { e.Time, e.Timed = -1, true }), api.ErrBadStamp}, {with(good, func(e *api.Event) { e.Time, e.Timed = api.MaxStamp+1, true }), api.ErrBadStamp},
		{with(good, func(e *api.Event) { e.Time, e.Timed = api.MaxStamp, true }), 0}, {with(good, func(e *api.Event) { e.Timed = true }), 0}, {with(good, func(e *api.Event) { e.Time = -1 }), api.ErrBadStamp},
		{api.Event{}, api.ErrBadName}, {with(good, func(e *api.Event) { e.Rate, e.Time = 0, 1 }), api.ErrBadRate},
	} {
		s, err := line.Print(c.e)
		if line.Check(c.e) != c.want || err != c.want || c.want != 0 && s != "" {
			t.Errorf("Check(%+v) = %d, Print %q, %d; want %d", c.e, line.Check(c.e), s, err, c.want)
		}
	}
}

func TestP4_3_Print(t *testing.T) {
	for want, e := range map[string]api.Event{
		"a:+0|g":               {Name: "a", Kind: api.KGauge, Delta: true, Rate: api.Unit},
		"a:-0.5|g":             {Name: "a", Kind: api.KGauge, Delta: true, Value: -500000, Rate: api.Unit},
		"a:1|c|@0.5|T7":        {Name: "a", Kind: api.KCounter, Value: 1000000, Rate: 500000, Timed: true, Time: 7},
		"a:x y|s|T0":           {Name: "a", Kind: api.KSet, Member: "x y", Rate: api.Unit, Timed: true},
		"a:2|g":                event("a", api.KGauge, 2000000),
		"a:0.000001|ms|@0.001": {Name: "a", Kind: api.KTimer, Value: 1, Rate: 1000},
	} {
		if s, err := line.Print(e); s != want || err != api.OK {
			t.Errorf("Print(%+v) = %q, %d; want %q", e, s, err, want)
		}
	}
}

// randomLine is a line of parts that are mostly right.
func randomLine(r *rand.Rand) string {
	pick := func(l ...string) string { return l[r.Intn(len(l))] }
	s := pick("a", "a.b", "a b", "é", "x..y", "") + pick(":", ":", ":", "") + pick("1", "-1", "+2", "0.5", "x", "", "+0", "-0", "1000000000", "m:n") + pick("|c", "|g", "|ms", "|s", "|q", "")
	for range r.Intn(4) {
		s += pick("|@0.5", "|@1", "|T5", "|T007", "|", "|@x", "|Tx", "|z")
	}
	return s
}

func TestP4_4_5_ThereAndBack(t *testing.T) {
	r := rand.New(rand.NewSource(5))
	for range 20000 {
		s := randomLine(r)
		e, place, err := line.Parse(s)
		if place < 0 || place > len(s) { // P4.7
			t.Fatalf("Parse(%q): place %d", s, place)
		}
		if err != api.OK {
			continue
		}
		text, err := line.Print(e)
		again, place, err2 := line.Parse(text)
		if line.Check(e) != api.OK || err != api.OK || err2 != api.OK || place != 0 || again != e {
			t.Fatalf("%q says %+v; printed %q, %d", s, e, text, err)
		}
	}
}

func TestP4_6_Parts(t *testing.T) {
	base, _, _ := line.Parse("a:1|c|@0.5|T5")
	for s, change := range map[string]func(*api.Event){
		"b c:1|c|@0.5|T5": func(e *api.Event) { e.Name = "b_c" },
		"a:7|c|@0.5|T5":   func(e *api.Event) { e.Value = 7000000 },
		"a:1|ms|@0.5|T5":  func(e *api.Event) { e.Kind = api.KTimer },
		"a:1|c|@0.25|T5":  func(e *api.Event) { e.Rate = 250000 },
		"a:1|c|@0.5|T9":   func(e *api.Event) { e.Time = 9 },
		"a:1|c|@0.5":      func(e *api.Event) { e.Timed, e.Time = false, 0 },
		"a:1|c|T5":        func(e *api.Event) { e.Rate = api.Unit },
	} {
		if e, _, err := line.Parse(s); err != api.OK || e != with(base, change) {
			t.Errorf("Parse(%q) = %+v, %d", s, e, err)
		}
	}
}
