package config_test

import (
	"math"
	"math/rand"
	"slices"
	"strings"
	"testing"

	"tumbler/api"
	"tumbler/config"
	"tumbler/wide"
)

var usual = api.Config{Width: 10, Late: 0, Ahead: 3600, Idle: 300, Sources: 1024, Series: 65536, Gauges: 65536, Shards: 4, Queue: 64}

func parse(t *testing.T, text string, want api.Setup) {
	t.Helper()
	if s, line, err := config.Parse(text); err != api.OK || line != 0 || !equal(s, want) {
		t.Errorf("Parse(%q) = %+v, %d at %d; want %+v", text, s, err, line, want)
	}
}

func refused(t *testing.T, text string, want api.Errno, line int) {
	t.Helper()
	if s, at, err := config.Parse(text); err != want || at != line || !equal(s, api.Setup{}) {
		t.Errorf("Parse(%.80q) = %d at %d; want %d at %d", text, err, at, want, line)
	}
}

func gate(change func(*api.Config)) api.Setup {
	s := api.Setup{Gate: usual}
	change(&s.Gate)
	return s
}

func rule() api.Rule {
	return api.Rule{Pattern: "*", Specs: []api.Spec{{Step: 10, Points: 6}, {Step: 60, Points: 5}}, Method: api.MAverage, Xff: 500000}
}

func TestP25_1_Settings(t *testing.T) {
	parse(t, "", api.Setup{Gate: usual})
	parse(t, "\n \t\r\n# [gate]\n  #x\n", api.Setup{Gate: usual})
	parse(t, "[gate]\nwidth = 5\n", gate(func(c *api.Config) { c.Width = 5 }))
	parse(t, "\t[gate] \r\nwidth\t=5\r\nlate=1\n ahead =  2\nidle=3\nsources=4\nseries=5\ngauges=6\nshards=7\nqueue=8", api.Setup{Gate: api.Config{Width: 5, Late: 1, Ahead: 2, Idle: 3, Sources: 4, Series: 5, Gauges: 6, Shards: 7, Queue: 8}})
	parse(t, "[rule]\npattern = *\narchives = 10:6 60:5", api.Setup{Gate: usual, Rules: []api.Rule{rule()}})
	parse(t, "[flush]\nprefix = st.x\npercents = -10 \t 50 99.5\nbounds = 0 0.5 0020", api.Setup{Gate: usual, Flush: api.Flush{Prefix: "st.x", Percents: []int64{-10000000, 50000000, 99500000}, Bounds: []int64{0, 500000, 20000000}}})
	parse(t, "[flush]\nprefix =\npercents=\nbounds = \n", api.Setup{Gate: usual})
	for i, m := range []string{"average", "sum", "last", "max", "min"} {
		r := rule()
		r.Method, r.Xff, r.Specs = api.Method(i+1), 0, r.Specs[:1]
		parse(t, "[rule]\nmethod = "+m+"\nxff = 0\narchives = 10:6\npattern = *", api.Setup{Gate: usual, Rules: []api.Rule{r}})
	}
	a := api.AlarmRule{Name: "a", Above: true, For: 1}
	parse(t, "[alarm]\nname = a", api.Setup{Gate: usual, Alarms: []api.AlarmRule{a}})
	b := api.AlarmRule{Name: "b=c", Warn: wide.Of(-1500000), Crit: wide.Of(-1500001), Slack: wide.Of(1), For: 2, Absent: 3, Again: 4}
	parse(t, "[alarm]\nname = b=c\nabove = no\nwarn = -1.5\ncrit = -1.500001\nslack = 0.000001\nfor = 2\nabsent = 3\nagain = 4\n[alarm]\nname = a", api.Setup{Gate: usual, Alarms: []api.AlarmRule{b, a}})
	parse(t, "[relay]\nnodes = b a\n", api.Setup{Gate: usual, Relay: api.RelayConfig{Nodes: []string{"b", "a"}, Copies: 1, Replicas: 1, Held: 1}})
	parse(t, "[relay]\nnodes = b\ncopies = 2\nreplicas = 3\nheld = 4\nnewest = yes", api.Setup{Gate: usual, Relay: api.RelayConfig{Nodes: []string{"b"}, Copies: 2, Replicas: 3, Held: 4, Newest: true}})
	parse(t, "[relay]\ncopies = 0\nreplicas = 0\nheld = 0", api.Setup{Gate: usual})
}

func TestP25_1_Faults(t *testing.T) {
	for s, line := range map[string]int{"[gate]\nwidth": 2, "x": 1, "[gate": 1, "gate]": 1, "=5": 1, "\n\n = 5": 3, "Width = 5": 1, "wi dth = 5": 1, "width2 = 5": 1, "[": 1, "]": 1, "[gate] # x": 1, "[gate]x = 1": 1, ";": 1, "\x00": 1, "[gate] =": 1} {
		refused(t, s, api.ErrLine, line)
	}
	for s, line := range map[string]int{"width = 5": 1, "[x]": 1, "[]": 1, "[ gate]": 1, "[Gate]": 1, "[gate]\nwith = 5": 2, "[flush]\nwidth = 5": 2, "[gate]\n[flush]\nwidth = 5": 3, "[[gate]]": 1, "[gate]]": 1, "[rule]\nname = a": 2, "[relay]\nfor = 1": 2, "\n# x\nx=": 3, "azy = 1": 1} {
		refused(t, s, api.ErrKey, line)
	}
	for s, line := range map[string]int{"[gate]\nwidth = 5\nwidth = 5": 3, "[gate]\nwidth = 5\nlate = 0\nwidth = x": 4, "[gate]\n[gate]": 2, "[flush]\n[gate]\n[flush]": 3, "[relay]\n[relay]": 2, "[rule]\npattern = a\npattern = b": 3} {
		refused(t, s, api.ErrAgain, line)
	}
	for _, v := range []string{"", "05", "-0", "+1", "1.0", "1 2", "x", "0x1", "1_0", "9223372036854775808", "-9223372036854775809", "- 1", "٣", "--1"} {
		for _, key := range []string{"gate]\nwidth", "gate]\nidle", "gate]\nqueue", "alarm]\nfor", "alarm]\nagain", "relay]\nheld"} {
			refused(t, "["+key+" = "+v, api.ErrValue, 2)
		}
	}
	for s, line := range map[string]int{"[flush]\nprefix = a b": 2, "[flush]\npercents = 50 x": 2, "[flush]\npercents = 1.0000001": 2, "[flush]\nbounds = 9223372036855": 2, "[rule]\narchives = 10": 2, "[rule]\narchives = 10:": 2, "[rule]\narchives = :6": 2, "[rule]\narchives = 10:6:1": 2, "[rule]\narchives = 10:06": 2, "[rule]\narchives = 10 :6": 2,
		"[rule]\nmethod =": 2, "[rule]\nmethod = avg": 2, "[rule]\nmethod = Sum": 2, "[rule]\nxff = x": 2, "[rule]\nxff =": 2, "[rule]\nxff = 0.5 0.5": 2, "[rule]\nxff = 170141183460469231731687303715884": 2, "[rule]\npattern = a b": 2, "[alarm]\nname = a b": 2, "[alarm]\nabove = Yes": 2, "[alarm]\nabove =": 2, "[alarm]\nwarn =": 2, "[alarm]\nwarn = 1e3": 2,
		"[alarm]\nslack = 170141183460469231731687303715885": 2, "[relay]\nnewest = 1": 2, "[relay]\nnewest = yes no": 2} {
		refused(t, s, api.ErrValue, line)
	}
	refused(t, strings.Repeat("[rule]\npattern = *\narchives = 10:6\n", 64)+"[rule]", api.ErrMany, 193)
	refused(t, strings.Repeat("[alarm]\nname = a\n", 64)+"\n[alarm]", api.ErrMany, 130)
	refused(t, strings.Repeat("x", 65537), api.ErrLong, 0)
	refused(t, strings.Repeat("\n", 65536)+"x", api.ErrLong, 0)
	parse(t, strings.Repeat("\n", 65536), api.Setup{Gate: usual})
	// What is wrong with all together has no line; the first line at fault is ahead of that.
	for s, want := range map[string]api.Errno{"[gate]\nwidth = 0": api.ErrConfig, "[gate]\nshards = -1": api.ErrConfig, "[flush]\nprefix = a..b": api.ErrFlush, "[flush]\nbounds = -1": api.ErrFlush, "[rule]": api.ErrRule, "[rule]\npattern = *": api.ErrRule, "[rule]\narchives = 1:1": api.ErrRule, "[rule]\npattern = *\narchives = 1:1\nxff = 2": api.ErrRule,
		"[alarm]": api.ErrAlarm, "[alarm]\nname = a\n[alarm]\nname = a": api.ErrAlarm, "[relay]": api.ErrNode, "[relay]\nnodes = a a": api.ErrThere, "[relay]\nnodes = a\ncopies = 0": api.ErrCopies, "[relay]\nnodes = a\nheld = 0": api.ErrArg, "[relay]\ncopies = 0\nreplicas = 0\nheld = 0\nnewest = yes": api.ErrCopies,
		"[relay]\n[alarm]\n[rule]\n[flush]\nbounds = -1\n[gate]\nwidth = 0": api.ErrConfig, "[relay]\n[alarm]\n[rule]\n[flush]\nbounds = -1": api.ErrFlush, "[relay]\n[alarm]\n[rule]": api.ErrRule, "[relay]\n[alarm]": api.ErrAlarm} {
		refused(t, s, want, 0)
		refused(t, s+"\nx", api.ErrLine, strings.Count(s, "\n")+2)
	}
}

func full() api.Setup {
	return api.Setup{Gate: usual, Flush: api.Flush{Prefix: "st", Percents: []int64{-1, 90000000}, Bounds: []int64{0, math.MaxInt64}}, Rules: []api.Rule{rule(), rule()},
		Alarms: []api.AlarmRule{{Name: "a", Above: true, Crit: api.Wide{Hi: 1 << 36}, For: 1}, {Name: "#=[b]", Warn: wide.Of(-1), Crit: wide.Of(-2), For: 1000, Absent: 9, Again: api.MaxStamp}}, Relay: api.RelayConfig{Nodes: []string{"b", "[a]", "#"}, Copies: 1, Replicas: 1, Held: 9, Newest: true}}
}

func TestP25_2_Check(t *testing.T) {
	if err := config.Check(full()); err != api.OK {
		t.Errorf("Check: %d", err)
	}
	worse := full()
	for _, c := range []struct {
		spoil func(*api.Setup)
		want  api.Errno
	}{{func(s *api.Setup) { s.Relay.Nodes = nil }, api.ErrNode}, {func(s *api.Setup) { s.Alarms[1].Name = "a" }, api.ErrAlarm}, {func(s *api.Setup) { s.Rules[1].Xff = -1 }, api.ErrRule}, {func(s *api.Setup) { s.Rules = slices.Repeat(s.Rules, 33) }, api.ErrMany}, {func(s *api.Setup) { s.Flush.Percents[0] = 0 }, api.ErrFlush}, {func(s *api.Setup) { s.Gate.Queue = 0 }, api.ErrConfig}} {
		c.spoil(&worse)
		text, err := config.Print(worse)
		if config.Check(worse) != c.want || err != c.want || text != "" {
			t.Errorf("Check = %d, Print %d; want %d", config.Check(worse), err, c.want)
		}
	}
	for i, c := range []api.RelayConfig{{Nodes: []string{"a"}}, {Copies: 1}, {Replicas: 1}, {Held: 1}, {Newest: true}} {
		want := api.ErrCopies
		if i == 1 {
			want = api.ErrNode
		}
		if err := config.Check(api.Setup{Gate: usual, Relay: c}); err != want {
			t.Errorf("Check of the relay %v = %d; want %d", c, err, want)
		}
	}
	if config.Check(api.Setup{}) != api.ErrConfig || config.Check(api.Setup{Gate: usual, Relay: api.RelayConfig{Nodes: []string{}}}) != api.OK {
		t.Error("Check of little")
	}
}

func TestP25_3_Print(t *testing.T) {
	head := "[gate]\nwidth = 10\nlate = 0\nahead = 3600\nidle = 300\nsources = 1024\nseries = 65536\ngauges = 65536\nshards = 4\nqueue = 64\n[flush]\nprefix ="
	text, err := config.Print(api.Setup{Gate: usual})
	if err != api.OK || text != head+"\npercents =\nbounds =\n" {
		t.Errorf("Print = %q, %d", text, err)
	}
	s := full()
	s.Rules = s.Rules[:1]
	text, err = config.Print(s)
	want := head + " st\npercents = -0.000001 90\nbounds = 0 9223372036854.775807\n[rule]\npattern = *\narchives = 10:6 60:5\nmethod = average\nxff = 0.5\n" +
		"[alarm]\nname = a\nabove = yes\nwarn = 0\ncrit = 1267650600228229401496703.205376\nslack = 0\nfor = 1\nabsent = 0\nagain = 0\n" +
		"[alarm]\nname = #=[b]\nabove = no\nwarn = -0.000001\ncrit = -0.000002\nslack = 0\nfor = 1000\nabsent = 9\nagain = 1099511627775\n" +
		"[relay]\nnodes = b [a] #\ncopies = 1\nreplicas = 1\nheld = 9\nnewest = yes\n"
	if err != api.OK || text != want {
		t.Errorf("Print = %q, %d; want %q", text, err, want)
	}
	s.Alarms[0].Name, s.Relay.Nodes[0] = "!~", "~!"
	if _, err := config.Print(s); err != api.OK {
		t.Errorf("Print of the first and the last byte that may be: %d", err)
	}
	for _, name := range []string{"a b", "a\n", "é", "\x7f", "a\t", "\x00"} {
		s := full()
		s.Alarms[1].Name = name
		if text, err := config.Print(s); text != "" || err != api.ErrValue || config.Check(s) != api.OK {
			t.Errorf("Print of the alarm %q = %d", name, err)
		}
		s = full()
		s.Relay.Nodes[2] = name
		if text, err := config.Print(s); text != "" || err != api.ErrValue || config.Check(s) != api.OK {
			t.Errorf("Print of the node %q = %d", name, err)
		}
	}
	s = full()
	s.Rules = slices.Repeat(s.Rules, 32)
	for i := range s.Rules {
		s.Rules[i].Pattern = strings.Repeat("a", 400)
	}
	if text, err := config.Print(s); err != api.OK || len(text) > 65536 {
		t.Errorf("Print of long ones: %d, %d", len(text), err)
	}
	var specs []api.Spec
	for i := range 8 {
		specs = append(specs, api.Spec{Step: 1000000 << i, Points: 4096})
	}
	for i := range s.Rules {
		s.Rules[i].Specs = specs
	}
	s.Alarms = nil
	for i := range 64 {
		s.Alarms = append(s.Alarms, api.AlarmRule{Name: string(rune('0'+i)) + strings.Repeat("x", 199), For: 1, Warn: wide.Of(-1 << 62), Crit: wide.Of(-1 << 62)})
	}
	for i := range 60 {
		s.Relay.Nodes = append(s.Relay.Nodes, string(rune('0'+i))+strings.Repeat("y", 199))
	}
	if text, err := config.Print(s); err != api.ErrLong || text != "" {
		t.Errorf("Print of what is too long: %d, %d", len(text), err)
	}
	// A text of just so many bytes as there may be, and of one more.
	s.Alarms[0].Name = "x"
	for i := range s.Rules {
		s.Rules[i].Pattern = "*"
	}
	text, _ = config.Print(s)
	for i := range s.Rules {
		grow := min(399, api.MaxText-len(text))
		s.Rules[i].Pattern += strings.Repeat("a", grow)
		text, _ = config.Print(s)
	}
	if len(text) != api.MaxText {
		t.Errorf("Print of the longest: %d", len(text))
	}
	s.Alarms[0].Name += "x"
	if text, err := config.Print(s); err != api.ErrLong || text != "" {
		t.Errorf("Print of one byte more: %d, %d", len(text), err)
	}
}

// random are settings that may be and can be written.
func random(r *rand.Rand) api.Setup {
	s := api.Setup{Gate: api.Config{Width: 1 + r.Int63n(99), Late: r.Int63n(9), Ahead: r.Int63n(9), Idle: 1 + r.Int63n(9), Sources: 1 + r.Intn(9), Series: 1 + r.Intn(9), Gauges: 1 + r.Intn(9), Shards: 1 + r.Intn(16), Queue: 1 + r.Intn(9)}}
	for i := range r.Int63n(3) {
		s.Flush.Percents = append(s.Flush.Percents, i*1000+1+r.Int63n(999))
		s.Flush.Bounds = append(s.Flush.Bounds, i*1000+r.Int63n(1000))
		s.Rules = append(s.Rules, api.Rule{Pattern: []string{"*", "a.{b,c}", "[a-c]?"}[i], Specs: []api.Spec{{Step: 1 + r.Int63n(9), Points: 1 + r.Intn(9)}}, Method: api.Method(1 + r.Intn(5)), Xff: r.Int63n(1000001)})
		w := r.Int63n(999) - 500
		s.Alarms = append(s.Alarms, api.AlarmRule{Name: string(rune('a' + i)), Above: true, Warn: wide.Of(w), Crit: wide.Of(w + r.Int63n(9)), Slack: wide.Of(r.Int63n(9)), For: 1 + r.Intn(9), Absent: r.Intn(9), Again: r.Int63n(9)})
	}
	if r.Intn(2) == 0 {
		s.Relay = api.RelayConfig{Nodes: []string{"a:1", "b"}, Copies: 1 + r.Intn(9), Replicas: 1 + r.Intn(8), Held: 1 + r.Intn(9), Newest: r.Intn(2) == 0}
	}
	return s
}

// sections cuts a text of settings ahead of each section line.
func sections(text string) []string {
	return strings.Split(strings.ReplaceAll(text, "\n[", "\n\x00["), "\x00")
}

func TestP25_4_to_7(t *testing.T) {
	r := rand.New(rand.NewSource(29))
	parse(t, printed(t, full()), full())
	for range 500 {
		s := random(r)
		text := printed(t, s)
		parse(t, text, s)
		var noisy strings.Builder
		for line := range strings.SplitSeq(text, "\n") {
			noisy.WriteString([]string{"", "\n", "# x\n", " \t \r\n"}[r.Intn(4)] + []string{"", " ", "\t"}[r.Intn(3)] + line + []string{"", " ", "\r"}[r.Intn(3)] + "\n")
		}
		parse(t, noisy.String(), s)
		// Keys of a section and sections change places, but for rules among rules and alarms among alarms.
		l := sections(text)
		keysMixed := ""
		byTitle := map[string]string{}
		for _, x := range l {
			lines := strings.SplitAfter(strings.TrimSuffix(x, "\n"), "\n")
			keys := lines[1:]
			keys[len(keys)-1] += "\n"
			r.Shuffle(len(keys), func(i, j int) { keys[i], keys[j] = keys[j], keys[i] })
			x = lines[0] + strings.Join(keys, "")
			keysMixed += x
			byTitle[lines[0]] += x
		}
		parse(t, keysMixed, s)
		mixed := ""
		for _, x := range byTitle { // in any order
			mixed += x
		}
		parse(t, mixed, s)
	}
}

func printed(t *testing.T, s api.Setup) string {
	t.Helper()
	text, err := config.Print(s)
	if err != api.OK {
		t.Fatalf("Print: %d", err)
	}
	return text
}

func TestP25_5_PrintOfParsed(t *testing.T) {
	for _, text := range []string{"[flush]\nbounds = 00.5 1.50\n", "[alarm]\nname = a\nwarn = -0\ncrit = 007.0", "[relay]\nnodes = a   b\n", "[rule]\npattern=*\narchives=1:2\t2:2 \n"} {
		s, _, err := config.Parse(text)
		if err != api.OK {
			t.Fatalf("Parse(%q): %d", text, err)
		}
		parse(t, printed(t, s), s)
	}
	s, _, err := config.Parse("[alarm]\nname = é")
	if text, wrong := config.Print(s); err != api.OK || text != "" || wrong != api.ErrValue {
		t.Errorf("Print: %d, %d", err, wrong)
	}
}
