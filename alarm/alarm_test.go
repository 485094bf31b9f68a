package alarm_test

import (
	"math"
	"math/rand"
	"slices"
	"strings"
	"testing"

	"tumbler/alarm"
	"tumbler/api"
	"tumbler/wide"
)

const (
	fine = api.SFine
	warn = api.SWarn
	crit = api.SCrit
	none = api.SNone
)

func up() api.AlarmRule {
	return api.AlarmRule{Name: "up", Above: true, Warn: wide.Of(10), Crit: wide.Of(20), Slack: wide.Of(2), For: 2, Absent: 2, Again: 60}
}

func with(change func(*api.AlarmRule)) api.AlarmRule {
	r := up()
	change(&r)
	return r
}

func book(t *testing.T, rules ...api.AlarmRule) *alarm.Book {
	t.Helper()
	b, i, err := alarm.New(rules)
	if err != api.OK || i != 0 {
		t.Fatalf("New: %d, %d", i, err)
	}
	return b
}

func cell(v int64) api.Cell { return api.Cell{Is: true, Value: wide.Of(v)} }

// gap is a cell without a value: what stands there is not looked at.
var gap = api.Cell{Value: wide.Of(99)}

// feed fails unless the rule says nothing.
func feed(t *testing.T, b *alarm.Book, at int64, c api.Cell, state api.State) {
	t.Helper()
	l, err := b.Feed("up", at, c)
	if s, ok := b.State("up"); err != api.OK || len(l) != 0 || s != state || !ok {
		t.Errorf("Feed(%d, %v) = %v, %d, state %d; want %d", at, c, l, err, s, state)
	}
}

// says fails unless the rule says one thing.
func says(t *testing.T, b *alarm.Book, at int64, c api.Cell, from, to api.State) {
	t.Helper()
	l, err := b.Feed("up", at, c)
	if !c.Is {
		c = api.Cell{}
	}
	want := api.Alert{Name: "up", Time: at, From: from, To: to, Again: from == to, Value: c}
	if s, ok := b.State("up"); err != api.OK || !slices.Equal(l, []api.Alert{want}) || s != to || !ok {
		t.Errorf("Feed(%d, %v) = %v, %d, state %d; want %v", at, c, l, err, s, want)
	}
}

func TestP23_1_New(t *testing.T) {
	most := api.Wide{Hi: 1 << 36}
	over, _ := wide.Add(most, wide.Of(1))
	least, _ := wide.Neg(most)
	for _, r := range []api.AlarmRule{up(), with(func(r *api.AlarmRule) { r.Crit = r.Warn }), with(func(r *api.AlarmRule) { r.Above, r.Warn = false, r.Crit }), with(func(r *api.AlarmRule) { r.Warn, r.Crit, r.Slack = least, most, most }), with(func(r *api.AlarmRule) { r.Slack = api.Wide{} }),
		with(func(r *api.AlarmRule) { r.For, r.Absent, r.Again = 1, 0, 0 }), with(func(r *api.AlarmRule) { r.For, r.Absent, r.Again = 1000, 1000, api.MaxStamp }), with(func(r *api.AlarmRule) { r.Name = strings.Repeat("\xff", 200) })} {
		book(t, r)
	}
	for i, change := range []func(*api.AlarmRule){
		func(r *api.AlarmRule) { r.Name = "" }, func(r *api.AlarmRule) { r.Name = strings.Repeat("a", 201) }, func(r *api.AlarmRule) { r.Crit = over }, func(r *api.AlarmRule) { r.Warn, _ = wide.Neg(over) }, func(r *api.AlarmRule) { r.Warn = api.Wide{Hi: math.MinInt64} }, func(r *api.AlarmRule) { r.Slack = over }, func(r *api.AlarmRule) { r.Slack = wide.Of(-1) },
		func(r *api.AlarmRule) { r.Crit = wide.Of(9) }, func(r *api.AlarmRule) { r.Above = false }, func(r *api.AlarmRule) { r.For = 0 }, func(r *api.AlarmRule) { r.For = 1001 }, func(r *api.AlarmRule) { r.Absent = -1 }, func(r *api.AlarmRule) { r.Absent = 1001 }, func(r *api.AlarmRule) { r.Again = -1 }, func(r *api.AlarmRule) { r.Again = api.MaxStamp + 1 }, func(r *api.AlarmRule) { r.Name = "other" },
	} {
		other := with(func(r *api.AlarmRule) { r.Name = "other" })
		if b, n, err := alarm.New([]api.AlarmRule{other, with(change), {}}); b != nil || n != 1 || err != api.ErrAlarm {
			t.Errorf("%d: New: %d, %d", i, n, err)
		}
	}
	var l []api.AlarmRule
	for i := range 65 {
		l = append(l, with(func(r *api.AlarmRule) { r.Name = string(rune('a' + i)) }))
	}
	book(t, l[:64]...)
	book(t)
	l[0] = api.AlarmRule{}
	if b, n, err := alarm.New(l); b != nil || n != 64 || err != api.ErrMany {
		t.Errorf("New of 65: %d, %d", n, err)
	}
}

func TestP23_2_Examples(t *testing.T) {
	b := book(t, up())
	feed(t, b, 1, cell(12), fine)
	says(t, b, 2, cell(12), fine, warn)
	feed(t, b, 3, cell(9), warn)
	says(t, b, 4, cell(7), warn, fine)
	feed(t, b, 5, cell(25), fine)
	feed(t, b, 6, cell(12), fine)
	says(t, b, 7, cell(12), fine, warn)
	feed(t, b, 8, cell(25), warn)
	says(t, b, 9, cell(30), warn, crit)
	feed(t, b, 10, cell(19), crit)
	says(t, b, 11, cell(17), crit, warn)
	feed(t, b, 12, gap, warn)
	says(t, b, 13, gap, warn, none)
	says(t, b, 14, cell(5), none, fine)

	feed(t, b, 99, cell(25), fine)
	says(t, b, 100, cell(25), fine, crit)
	feed(t, b, 159, cell(25), crit)
	says(t, b, 160, cell(25), crit, crit)
	feed(t, b, 219, cell(25), crit)
	if err := b.Mute("up", 300); err != api.OK {
		t.Errorf("Mute: %d", err)
	}
	feed(t, b, 240, cell(1), fine)
	feed(t, b, 299, cell(1), fine)
	says(t, b, 300, cell(1), crit, fine)
	feed(t, b, 500, cell(1), fine) // of a fine state nothing is said again
}

func TestP23_2_Edges(t *testing.T) {
	b := book(t, up())
	feed(t, b, 0, cell(10), fine) // just at the threshold is beyond it
	feed(t, b, 1, gap, fine)      // no candidate any more
	feed(t, b, 2, cell(10), fine)
	feed(t, b, 3, cell(8), fine) // near does not count ahead of the state, and ends the run
	feed(t, b, 4, cell(10), fine)
	says(t, b, 5, cell(10), fine, warn)
	feed(t, b, 6, cell(20), warn)
	feed(t, b, 7, cell(9), warn) // the level is the state: no candidate
	feed(t, b, 8, cell(20), warn)
	says(t, b, 9, cell(20), warn, crit)
	feed(t, b, 10, cell(18), crit)
	says(t, b, 11, cell(8), crit, warn) // near warn
	feed(t, b, 12, gap, warn)
	feed(t, b, 13, cell(11), warn) // gaps begin anew
	feed(t, b, 14, gap, warn)
	says(t, b, 15, gap, warn, none)
	feed(t, b, 16, gap, none)
	says(t, b, 75, gap, none, none)
	says(t, b, 76, cell(25), none, crit) // at once, with no points running
	says(t, b, 77, cell(7), crit, fine)
	feed(t, b, 78, gap, fine)
	says(t, b, 79, gap, fine, none)
	says(t, b, 80, cell(9), none, fine)

	// A state that was come to leaves no candidate behind.
	b = book(t, up())
	feed(t, b, 1, cell(12), fine)
	says(t, b, 2, cell(12), fine, warn)
	says(t, b, 3, cell(1), warn, fine)
	feed(t, b, 4, cell(12), fine)
	says(t, b, 5, cell(12), fine, warn)

	// In warn, one point of crit, and then another of warn: no point is left of it.
	b = book(t, with(func(r *api.AlarmRule) {
		r.Above, r.Warn, r.Crit, r.For, r.Absent, r.Again = false, wide.Of(20), wide.Of(10), 1, 0, 0
	}))
	says(t, b, 1, cell(20), fine, warn)
	feed(t, b, 2, cell(22), warn)
	says(t, b, 3, cell(23), warn, fine)
	says(t, b, 4, cell(10), fine, crit)
	feed(t, b, 5, cell(12), crit)
	for at := range int64(90) {
		feed(t, b, 6+at, gap, crit)
	}
	says(t, b, 100, cell(13), crit, warn)
	says(t, b, 200, cell(math.MinInt64), warn, crit)
	says(t, b, api.MaxStamp, cell(math.MaxInt64), crit, fine)
	if l, err := b.Feed("up", api.MaxStamp, gap); len(l) != 0 || err != api.ErrPast {
		t.Errorf("Feed: %d", err)
	}
	// Muted up to 0: not at all.
	b = book(t, with(func(r *api.AlarmRule) { r.For = 1 }))
	b.Mute("up", 9)
	feed(t, b, 5, cell(20), crit)
	b.Mute("up", 0)
	says(t, b, 6, cell(20), fine, crit)
	b = book(t, with(func(r *api.AlarmRule) { r.For = 1 }))
	b.Mute("up", api.MaxStamp)
	feed(t, b, 5, cell(20), crit)
	feed(t, b, 6, cell(1), fine) // what was never said needs no taking back
	b.Mute("up", 0)
	feed(t, b, 7, cell(1), fine)
}

func TestP23_2_3_Errors(t *testing.T) {
	b := book(t, up())
	check := func(name string, at int64, want api.Errno) {
		t.Helper()
		if l, err := b.Feed(name, at, cell(1)); err != want || len(l) != 0 {
			t.Errorf("Feed(%q, %d) = %d; want %d", name, at, err, want)
		}
	}
	check("x", -1, api.ErrUnknown)
	check("", 1, api.ErrUnknown)
	check("up", -1, api.ErrArg)
	check("up", api.MaxStamp+1, api.ErrArg)
	check("up", 0, api.OK)
	check("up", 0, api.ErrPast)
	check("up", -1, api.ErrArg)
	check("up", 9, api.OK)
	check("up", 8, api.ErrPast)
	if b.Mute("x", -1) != api.ErrUnknown || b.Mute("up", -1) != api.ErrArg || b.Mute("up", api.MaxStamp+1) != api.ErrArg || b.Mute("up", api.MaxStamp) != api.OK {
		t.Error("Mute")
	}
	if s, ok := b.State("x"); s != 0 || ok {
		t.Error("State of none")
	}
	for _, b := range []*alarm.Book{nil, {}} {
		l, err := b.Feed("up", -1, gap)
		s, ok := b.State("up")
		if len(l) != 0 || err != api.ErrNil || b.Mute("up", -1) != api.ErrNil || s != 0 || ok {
			t.Error("a book that was not made")
		}
	}
}

func TestP23_4_to_6(t *testing.T) {
	r := rand.New(rand.NewSource(27))
	for range 300 {
		rule := with(func(x *api.AlarmRule) { x.For, x.Absent, x.Again = 1+r.Intn(3), r.Intn(4), int64(r.Intn(3)*5) })
		other := with(func(x *api.AlarmRule) { x.Name, x.For = "other", 1 })
		alone, both := book(t, rule), book(t, other, rule)
		said, at, muted := fine, int64(0), int64(0)
		for range 100 {
			at += 1 + r.Int63n(3)
			if r.Intn(20) == 0 {
				muted = at + r.Int63n(9)
				alone.Mute("up", muted)
				both.Mute("up", muted)
			}
			c := cell(r.Int63n(30))
			if r.Intn(4) == 0 {
				c = gap
			}
			both.Feed("other", at, cell(r.Int63n(30)))
			l, _ := alone.Feed("up", at, c)
			again, _ := both.Feed("up", at, c)
			if !slices.Equal(l, again) || len(l) > 1 || len(l) == 1 && at < muted {
				t.Fatalf("%v and %v", l, again)
			}
			for _, a := range l {
				if a.From != said || a.Again != (a.From == a.To) {
					t.Fatalf("%v behind %d", a, said)
				}
				said = a.To
			}
			if s, _ := alone.State("up"); at >= muted && s != said {
				t.Fatalf("the state %d, said %d", s, said)
			}
		}
	}
}
