package daemon_test

import (
	"fmt"
	"math/rand"
	"strconv"
	"strings"
	"testing"

	"tumbler/api"
	"tumbler/daemon"
)

// run plays a script and fails unless it tells just this.
func run(t *testing.T, script, want string) {
	t.Helper()
	if got, line, err := daemon.Run(script); err != api.OK || line != 0 || got != want {
		t.Errorf("Run(%q) = %d at %d:\n%s\nwant:\n%s", script, err, line, got, want)
	}
}

func refused(t *testing.T, script string, want api.Errno, line int) {
	t.Helper()
	if got, at, err := daemon.Run(script); got != "" || at != line || err != want {
		t.Errorf("Run(%.80q) = %q, %d at %d; want %d at %d", script, got, err, at, want, line)
	}
}

// pieces are the ten pieces of the document's script, each with what it tells.
var pieces = [][2]string{
	{"setup\n[gate]\nwidth = 10\nlate = 0\n[flush]\nprefix = st\n[rule]\npattern = st.counters.*.*\narchives = 10:6 60:5\n[alarm]\nname = st.counters.a.count\nwarn = 3\ncrit = 10\nend\n", ""},
	{"plan 5! 100\n", ""},
	{"datagram\na:1|c|T12\na:2|c|T13\nend\n", "accepted accepted\n"},
	{"datagram\nb:1|c|T20\nx\nend\n", "accepted malformed\nwindow 1 records 2 stored 2\nalarm st.counters.a.count fine warn at 10 3\n"},
	{"sink\n", "connection 5 failed\nwhole\nlost 1\nwrites 1\n"},
	{"names\nfind st.*\n", "st.counters.a.count\nst.counters.a.rate\nbranch st.counters\n"},
	{"tick 25\nrender 5 15 scale(st.counters.a.count, 2)\n", "ok\nst.counters.a.count 10 10 6\n"},
	{"shut\n", "ok\nwindow 2 records 2 stored 2\n"},
	{"ledger\nstate st.counters.a.count\nrelay\n", "lines 4 accepted 3 malformed 1 future 0 source 0 late 0 series 0 gauge 0\nwarn\nerror 240\n"},
	{"sink\n", "connection 5 failed\nconnection 51 open\nwhole 2\nlost 1\nwrites 2\n"},
}

func TestTheTenExamples(t *testing.T) {
	script, want := "", ""
	for _, p := range pieces {
		script, want = script+p[0], want+p[1]
		run(t, script, want)
		run(t, strings.TrimSuffix(script, "\n"), want)
	}
	run(t, "", "")
	run(t, "\n# x\n \t\n", "")
}

func TestP26_1_Refused(t *testing.T) {
	refused(t, strings.Repeat("#", 65537), api.ErrLong, 0)
	refused(t, strings.Repeat("\n", 65537), api.ErrLong, 0)
	run(t, strings.Repeat("#", 65536), "")
	refused(t, strings.Repeat("\n", 4097), api.ErrMany, 0)
	refused(t, strings.Repeat("\n", 4096)+"x", api.ErrMany, 0)
	run(t, strings.Repeat("\n", 4096), "")
	run(t, strings.Repeat("\n", 4095)+"#", "")
	for _, s := range []string{"x", "end", "Names", "from", "from a b", "tick", "tick x", "tick -1", "tick +1", "tick 1 2", "tick 1.0", "tick 1234567890123456", "tick 5\r", "shut now", "ledger 1", "find", "find a b", "render x 2 a", "render 1 x a", "render 1 1234567890123456 a",
		"names x", "sink x", "mute a", "mute 5", "mute a b", "mute a 1 2", "state", "state a b", "down", "up", "down a b", "take a", "take a x", "take 5", "take a 1 2", "relay x", "plan", "plan x", "plan !", "plan 5!!", "plan 1234567890", "plan -1", "plan 5 x", "plan 5 !", "datagram", "datagram\nend x", "datagram x\nend", "datagram\na:1|c\n end end", "setup x\nend", "setup", "setup\n[gate]", "Setup\nend"} {
		refused(t, s, api.ErrScript, 1)
		refused(t, "\n# x\nsetup\n[gate]\nend\n"+s, api.ErrScript, 6)
		refused(t, "names\ndatagram\nnonsense\n\tend \n"+s+"\nnonsense", api.ErrScript, 5)
	}
	refused(t, "names\nsetup\nend", api.ErrScript, 2)
	refused(t, "plan 5\nsetup\nend", api.ErrScript, 2)
	refused(t, "setup\nend\nsetup\nend", api.ErrScript, 3)
	refused(t, "plan 5\nplan 6\nfrom a\nplan 7", api.ErrScript, 4)
	run(t, "plan 000000005! 999999999\nplan 0\n", "")
	run(t, "tick 000000000000005\ntick 4\ntick 999999999999999", "ok\nerror 121\nerror 121\n")
	// A line that is no command is told ahead of the settings' faults.
	refused(t, "setup\n[gate]\nwidth = x\nend\nnames\nnonsense", api.ErrScript, 6)
	refused(t, "#\nsetup\n[gate]\nwidth = x\nend\nnames", api.ErrValue, 4)
	refused(t, "#\nsetup\n[gate]\nwidth = 0\nend\nnames", api.ErrConfig, 2)
	refused(t, "setup\nx\nend", api.ErrLine, 2)
	refused(t, "setup\n[rule]\nend", api.ErrRule, 1)
}

const tells = `setup
[flush]
prefix = st
percents = 50
[rule]
pattern = st.counters.*.count
archives = 10:6
[alarm]
name = st.counters.a.count
warn = 5
crit = 10
absent = 1
again = 20
[alarm]
name = st.gauges.g
above = no
warn = -1.5
crit = -2
[relay]
nodes = x y
replicas = 2
held = 3
end
`

func TestCommands(t *testing.T) {
	run(t, "datagram\nend\ndatagram\n\n\r\nend\n", "nothing\nnothing\n")
	run(t, "datagram\n\ta:1|c\nb:1|c\r\n # no word\nend", "accepted accepted malformed\n")
	run(t, "find ..\nfind *\nrender 0 1 f(\nrender 0 1 12\nrender 0 1 frob(a)\nrender 0 1 a b\nrender 1 0 a\nrender 0 999999999999999 a\nnames", "error 31\nerror 210\nerror 214\nerror 212\nerror 210\n")
	run(t, "state x\nmute x 5\ndown x\nup x\ntake x 5\nrelay\nsink\nledger", "error 231\nerror 231\nerror 240\nerror 240\nerror 240\nerror 240\nwhole\nlost\nwrites 0\nlines 0 accepted 0 malformed 0 future 0 source 0 late 0 series 0 gauge 0\n")
	run(t, "shut\nshut\ntick 5\ndatagram\na:1|c\nend\nledger", "ok\nerror 122\nerror 122\nerror 122\nlines 0 accepted 0 malformed 0 future 0 source 0 late 0 series 0 gauge 0\n")
	run(t, "setup\n[gate]\nsources = 1\nahead = 5\nseries = 1\ngauges = 1\nend\nfrom p\ndatagram\na:1|g\na:1|g|T6\nb:1|g\nb:1|g|T10\nend\nfrom q\ndatagram\na:1|g\nend\ntick 30\nfrom p\ndatagram\nb:1|g\na:1|g|T35\na:1|g\nend\nledger",
		"accepted future series future\nsource\nok\ngauge accepted accepted\nwindow 0 records 1 stored 0\nlines 8 accepted 3 malformed 0 future 2 source 1 late 0 series 1 gauge 1\n")
}

func TestAlarmsRelayAndStore(t *testing.T) {
	window := func(at int, lines ...string) string {
		return "datagram\n" + strings.Join(lines, "\n") + "\nz:1|s|T" + strconv.Itoa(at) + "\nend\n"
	}
	script := tells + window(12, "a:12|c|T5", "g:-1.75|g|T5", "g:+0|g|T5")
	// The gauge's first value is a step down from 0: -1.75 is below warn.
	want := "accepted accepted accepted accepted\nwindow 0 records 3 stored 1\nalarm st.counters.a.count fine crit at 0 12\nalarm st.gauges.g fine warn at 0 -1.75\n"
	run(t, script, want)
	script += window(25, "a:12|c|T15")
	want += "accepted accepted\nwindow 1 records 3 stored 1\n"
	run(t, script, want)
	script += "state st.gauges.g\nmute st.gauges.g 1099511627776\n" + window(35, "a:11|c|T25")
	want += "warn\nerror 1\naccepted accepted\nwindow 2 records 3 stored 1\nalarm st.counters.a.count crit crit at 20 again 11\n"
	run(t, script, want)
	script += "mute st.counters.a.count 40\n" + window(45, "b:1|c|T35") + "state st.counters.a.count\n"
	want += "ok\naccepted accepted\nwindow 3 records 3 stored 1\nnone\n"
	run(t, script, want)
	script += window(55, "b:1|c|T45", "g:9|g|T45")
	want += "accepted accepted accepted\nwindow 4 records 4 stored 1\nalarm st.counters.a.count crit none at 40 -\nalarm st.gauges.g warn fine at 40 9\n"
	run(t, script, want)
	run(t, script+"relay\ntake x 2\ndown y\ntake y 1\ntake x 0\ntake q 1\ndown y\nup x\ndown q\nrelay\nup y\ntake y 99\nrelay\n", want+
		"x up 3 0 13\ny up 3 0 13\ntaken 2\nok\nerror 242\nerror 1\nerror 240\nerror 242\nerror 241\nerror 240\nx up 1 2 13\ny down 3 0 13\nok\ntaken 3\nx up 1 2 13\ny up 0 3 13\n")
	run(t, script+"tick 50\nfind st.*\nfind st.*.*\nfind st.*.*.*\nrender 0 50   sumSeries( st.counters.{a,b}.count ) \nrender 0 60 alias(st.counters.b.count, 'b b')\nrender 40 30 st.counters.a.count\n", want+
		"ok\nbranch st.counters\nbranch st.counters.a\nbranch st.counters.b\nleaf st.counters.a.count\nleaf st.counters.b.count\nsumSeries(st.counters.a.count,st.counters.b.count) 10 10 12 11 1 1 -\nb b 10 10 - - 1 1 -\n")
	run(t, script+"shut\nsink\n", want+"ok\nwindow 5 records 1 stored 0\nconnection "+strconv.Itoa(len(frames))+" open\nwhole 0 1 2 3 4 5\nlost\nwrites 6\n")
}

// frames are all that the script above sends.
const frames = "st.counters.a.count 12 0\nst.counters.a.rate 1.2 0\nst.gauges.g -1.75 0\n" +
	"st.counters.a.count 12 10\nst.counters.a.rate 1.2 10\nst.sets.z.count 1 10\n" +
	"st.counters.a.count 11 20\nst.counters.a.rate 1.1 20\nst.sets.z.count 1 20\n" +
	"st.counters.b.count 1 30\nst.counters.b.rate 0.1 30\nst.sets.z.count 1 30\n" +
	"st.counters.b.count 1 40\nst.counters.b.rate 0.1 40\nst.gauges.g 9 40\nst.sets.z.count 1 40\nst.sets.z.count 1 50\n"

func TestTicks(t *testing.T) {
	// At 300 the source p is let go, which was heard at 0: then q alone says how far all have come.
	script := "setup\n[rule]\npattern = counters.*.count\narchives = 10:30\nend\nfrom p\ndatagram\na:1|c|T15\nend\ntick 100\nfrom q\ndatagram\na:2|c|T40\nend\ntick 300\n"
	want := "accepted\nok\naccepted\nok\nwindow 1 records 2 stored 1\n"
	run(t, script, want)
	run(t, script+"tick 299\ntick 999999999999999\nrender 5 15 counters.a.count\n", want+"error 121\nerror 121\ncounters.a.count 10 10 1\n")
	run(t, script+"tick 320\nrender 5 15 counters.a.count\n", want+"ok\n")
	run(t, script+"tick 305\ndatagram\na:5|c\nend\n", want+"ok\naccepted\nwindow 4 records 2 stored 1\n")
}

func TestWindowErrors(t *testing.T) {
	long := strings.Repeat("a", 190)
	run(t, "datagram\n"+long+":1|c|T5\na:1|c|T15\na:1|c|T25\nend\nsink\nnames\n", "accepted accepted accepted\nwindow 0 error 2\nwindow 1 records 2 stored 0\nconnection 45 open\nwhole 1\nlost\nwrites 1\n")
}

// random is a script of some settings and commands.
func random(r *rand.Rand, commands int) []string {
	var l []string
	now := 0
	for range commands {
		switch r.Intn(7) {
		case 0:
			now += r.Intn(15)
			l = append(l, "tick "+strconv.Itoa(now)+"\n")
		case 1:
			l = append(l, "from "+string(rune('p'+r.Intn(3)))+"\n")
		case 2:
			if r.Intn(9) == 0 {
				l = append(l, "shut\n")
			}
		case 3:
			l = append(l, []string{"down x\n", "up x\n", "take y 2\n", "mute st.counters.a.count 40\n"}[r.Intn(4)])
		default:
			s := "datagram\n"
			for range r.Intn(5) {
				s += fmt.Sprintf([]string{"%[1]c:%[2]d|c|@0.5|T%[3]d\n", "%[1]c:+%[2]d|g|T%[3]d\n", "%[1]c:%[2]d|ms|T%[3]d\n", "%[1]c:%[2]d|s\n", "x%[1]c\n", "\r#%[1]c\n"}[r.Intn(6)], 'a'+r.Intn(5), r.Intn(20), now+r.Intn(40))
			}
			l = append(l, s+"end\n")
		}
	}
	return l
}

const questions = "ledger\nfind *.*.*\nrender 0 99 absolute(*.*.*.*)\nnames\nsink\nstate st.counters.a.count\nrelay\n"

func told(t *testing.T, script string) string {
	t.Helper()
	s, line, err := daemon.Run(script)
	if err != api.OK {
		t.Fatalf("Run: %d at %d", err, line)
	}
	return s
}

func TestP26_2_to_6(t *testing.T) {
	r := rand.New(rand.NewSource(30))
	for range 120 {
		l := random(r, 25)
		plan := "plan 9 30! 5 0 4000\n"
		body := plan + strings.Join(l, "")
		whole := told(t, tells+body+questions)
		settings := fmt.Sprintf("setup\n[gate]\nshards = %d\nqueue = %d\n", 1+r.Intn(16), 1+r.Intn(5))
		if s := told(t, settings+strings.TrimPrefix(tells, "setup\n")+body+questions); s != whole {
			t.Fatalf("other shards:\n%s\nwant:\n%s", s, whole)
		}
		n := r.Intn(len(l) + 1)
		if s := told(t, tells+plan+strings.Join(l[:n], "")); !strings.HasPrefix(whole, s) {
			t.Fatalf("a beginning:\n%s\nof:\n%s", s, whole)
		}
		noisy, asked, answers := tells+"\n"+plan, tells+plan, tells+plan
		var parts []string
		for _, c := range l {
			noisy += []string{"", "\n", "# x\n", " \t\n"}[r.Intn(4)] + c
			before := told(t, answers)
			answers += c
			parts = append(parts, strings.TrimPrefix(told(t, answers), before))
			asked += questions + c
		}
		if s := told(t, noisy+questions); s != whole {
			t.Fatalf("with lines that say nothing:\n%s\nwant:\n%s", s, whole)
		}
		rest := told(t, asked)
		for _, p := range parts {
			i := strings.Index(rest, p)
			if i < 0 {
				t.Fatalf("with questions between: no %q in\n%s", p, rest)
			}
			rest = rest[i+len(p):]
		}
		checkTold(t, whole)
	}
}

// checkTold holds the windows told and the ledger's sums.
func checkTold(t *testing.T, report string) {
	t.Helper()
	last := -1
	for line := range strings.SplitSeq(report, "\n") {
		w := strings.Fields(line)
		if len(w) > 1 && w[0] == "window" {
			id, _ := strconv.Atoi(w[1])
			if id <= last {
				t.Fatalf("window %d behind %d", id, last)
			}
			last = id
		}
		if len(w) == 16 && w[0] == "lines" {
			all, _ := strconv.Atoi(w[1])
			for i := 3; i < 16; i += 2 {
				n, _ := strconv.Atoi(w[i])
				all -= n
			}
			if all != 0 {
				t.Fatalf("%s", line)
			}
		}
	}
}
