package target_test

import (
	"math/rand"
	"slices"
	"strings"
	"testing"

	"tumbler/api"
	"tumbler/target"
)

func path(s string) api.Expr  { return api.Expr{Kind: api.EPath, Text: s} }
func number(v int64) api.Expr { return api.Expr{Kind: api.ENumber, Value: v} }
func text(s string) api.Expr  { return api.Expr{Kind: api.EText, Text: s} }
func boolean(v int64) api.Expr {
	return api.Expr{Kind: api.EBool, Value: v}
}
func call(s string, args ...api.Expr) api.Expr {
	return api.Expr{Kind: api.ECall, Text: s, Args: args}
}

func parse(t *testing.T, s string, want api.Expr) {
	t.Helper()
	if e, place, err := target.Parse(s); err != api.OK || place != 0 || !equal(e, want) {
		t.Errorf("Parse(%q) = %v, %d at %d; want %v", s, e, err, place, want)
	}
}

// deep is a path within n calls.
func deep(n int) string { return strings.Repeat("f(", n) + "a" + strings.Repeat(")", n) }

// wide is a call of n arguments.
func wide(n int) string { return "f(" + strings.TrimSuffix(strings.Repeat("a,", n), ",") + ")" }

func TestP21_1_Parse(t *testing.T) {
	parse(t, "sumSeries(web.*.hits,scale(b, 0.50))", call("sumSeries", path("web.*.hits"), call("scale", path("b"), number(500000))))
	for s, want := range map[string]api.Expr{
		"a.{b,c}": path("a.{b,c}"), "12": number(12000000), "true": boolean(1), "false": boolean(0), "alias(a, 'x')": call("alias", path("a"), text("x")), "group()": call("group"), " \tgroup \t( \t) \t": call("group"),
		"-0.5": number(-500000), "-0": number(0), "007": number(7000000), "1.0000000": path("1.0000000"), "1000000000": number(api.MaxValue), "1000000000.1": path("1000000000.1"), "2000000000": path("2000000000"), "--1": path("--1"), "-": path("-"), "truex": path("truex"),
		"true(a)": call("true", path("a")), "[a-c]?*": path("[a-c]?*"), "f({a,b}.c,d)": call("f", path("{a,b}.c"), path("d")), "f({a,b},{c,,}d)": call("f", path("{a,b}"), path("{c,,}d")), "'it\"s'": text("it\"s"), "\"it's\"": text("it's"), "''": text(""), "f('a,)(')": call("f", text("a,)(")),
		"fA(a)": call("fA", path("a")), "azAZ(azAZ09)": call("azAZ", path("azAZ09")), "f": path("f"), "f(f, true ,'x' , 1)": call("f", path("f"), boolean(1), text("x"), number(1000000)), "' ~'": text(" ~"), strings.Repeat("a", 400): path(strings.Repeat("a", 400)),
	} {
		parse(t, s, want)
	}
	for _, s := range []string{deep(16), wide(16), "f(" + deep(15) + "," + deep(15) + ")", strings.Repeat(" ", 65535) + "a"} {
		if _, _, err := target.Parse(s); err != api.OK {
			t.Errorf("Parse(%.40q): %d", s, err)
		}
	}
	for s, place := range map[string]int{"": 0, "f(": 2, "f(a": 3, "f(a,)": 4, "a b": 2, "f(a))": 4, "a..b": 0, "F(a)": 0, "'a": 2, "f(1 2)": 4, "1.(a)": 0, " ": 1, "f(,)": 2, "f(a,": 4, "f(a, )": 5, "(a)": 0, "f a": 2, "f(a b)": 4, "'a' b": 4, "'a''b'": 3, "'a\n'": 2, "'é'": 1, "'\x7f'": 1, "'\x1f'": 1, "\"a'": 3,
		"a,b": 1, "{a,b": 0, "f({a,b)": 2, "{a b}": 0, "f(a..b, (": 2, "f1(a)": 0, "f_(a)": 0, "a.b(c)": 0, "é": 0, "\x00": 0, "a\x00": 1, "f(a;b)": 3, "f('a'": 5, "'a'(b)": 3, "f(a) (b)": 5, "[": 0, strings.Repeat("a", 401): 0, "f( 1,  [])": 7, "f(a)\n": 4, "f\n(a)": 1, "{b}(a)": 0} {
		if e, at, err := target.Parse(s); at != place || err != api.ErrSyntax || !equal(e, api.Expr{}) {
			t.Errorf("Parse(%q) = %v, %d at %d; want a fault at %d", s, e, err, at, place)
		}
	}
	for _, c := range []struct {
		s     string
		place int
		err   api.Errno
	}{{strings.Repeat(" ", 65537), 65536, api.ErrLong}, {deep(17), 33, api.ErrDeep}, {strings.Repeat("f(", 99), 33, api.ErrDeep}, {strings.Repeat("f(", 16) + "F(", 32, api.ErrSyntax}, {wide(17), 33, api.ErrMany}, {"f(" + wide(17), 35, api.ErrMany}, {wide(16)[:33] + ",)", 33, api.ErrMany}, {wide(16)[:33] + "\n", 33, api.ErrSyntax},
		{strings.Repeat("f(", 15) + "f(a),f(f(a", 38, api.ErrDeep}} {
		if e, at, err := target.Parse(c.s); at != c.place || err != c.err || !equal(e, api.Expr{}) {
			t.Errorf("Parse(%.60q) = %v, %d at %d; want %d at %d", c.s, e, err, at, c.err, c.place)
		}
	}
}

// nested is a path within n calls, as a tree.
func nested(n int) api.Expr {
	e := path("a")
	for range n {
		e = call("absolute", e)
	}
	return e
}

func many(n int, e api.Expr) []api.Expr { return slices.Repeat([]api.Expr{e}, n) }

// wrong are expressions that may not be.
func wrong() []api.Expr {
	return []api.Expr{{}, {Kind: 6, Text: "a"}, {Kind: -1}, path(""), path("a..b"), path("true"), path("12"), path("a b"), path("a,b"), {Kind: api.EPath, Text: "a", Value: 1}, {Kind: api.EPath, Text: "a", Args: many(1, path("a"))}, path(strings.Repeat("a", 401)),
		number(api.MaxValue + 1), number(-1 << 63), {Kind: api.ENumber, Text: "1"}, {Kind: api.ENumber, Args: many(1, path("a"))}, boolean(2), boolean(-1), {Kind: api.EBool, Text: "true", Value: 1}, text("'\""), text("\n"), text("é"), {Kind: api.EText, Value: 1}, {Kind: api.EText, Args: many(1, path("a"))},
		call(""), call("F"), call("f1"), call("a.b"), {Kind: api.ECall, Text: "f", Value: 1}, call("f", api.Expr{}), call("f", path("a"), call("g", path("..")))}
}

func TestP21_2_Print(t *testing.T) {
	for want, e := range map[string]api.Expr{
		"sumSeries(web.*.hits, scale(b, 0.5))": call("sumSeries", path("web.*.hits"), call("scale", path("b"), number(500000))), "group()": call("group"), "f('a', \"it's\", 'say \"x\"', '')": call("f", text("a"), text("it's"), text("say \"x\""), text("")),
		"f(true, false, -1.000001, {a,b})": call("f", boolean(1), boolean(0), number(-1000001), path("{a,b}")),
	} {
		if s, err := target.Print(e); s != want || err != api.OK {
			t.Errorf("Print(%v) = %q, %d; want %q", e, s, err, want)
		}
	}
	for _, e := range wrong() {
		if s, err := target.Print(e); s != "" || err != api.ErrSyntax || target.Check(e) != api.ErrSyntax {
			t.Errorf("Print(%v) = %q, %d", e, s, err)
		}
	}
	for _, c := range []struct {
		e    api.Expr
		want api.Errno
	}{{nested(16), 0}, {nested(17), api.ErrDeep}, {nested(30000), api.ErrDeep}, {call("f", many(16, path("a"))...), 0}, {call("f", many(17, path("a"))...), api.ErrMany}, {call("f", append(many(17, path("a")), nested(16))...), api.ErrDeep}, {call("f", append(many(17, nested(16)), path(".."))...), api.ErrSyntax},
		{call("f", call("g", many(17, path("a"))...)), api.ErrMany}, {text(strings.Repeat("a", 65534)), 0}, {text(strings.Repeat("a", 65535)), api.ErrLong}} {
		if s, err := target.Print(c.e); err != c.want || err != 0 && s != "" {
			t.Errorf("Print: %d; want %d", err, c.want)
		}
	}
}

func TestP21_3_Check(t *testing.T) {
	for s, want := range map[string]api.Errno{
		"frob(a)": api.ErrWord, "scale(a)": api.ErrCount, "scale(a, 'x')": api.ErrType, "limit(a, 1.5)": api.ErrType, "limit(a, -1)": api.ErrType, "sumSeries(1)": api.ErrType, "12": api.ErrType, "true": api.ErrType, "'x'": api.ErrType, "group()": api.ErrCount, "a": 0,
		"limit(a, 16384)": 0, "limit(a, 16385)": api.ErrType, "limit(a, 0)": 0, "scale(a, -0.5)": 0, "transformNull(a)": 0, "transformNull(a, 1)": 0, "transformNull(a, 1, 1)": api.ErrCount, "transformNull()": api.ErrCount, "keepLastValue(a)": 0, "keepLastValue(a, 1)": 0, "keepLastValue(a, 0.5)": api.ErrType,
		"aliasByNode(a)": api.ErrCount, "aliasByNode(a, 1)": 0, "aliasByNode(a, 1, 2, 3)": 0, "aliasByNode(a, 1, 'x')": api.ErrType, "aliasByNode(1, 1)": api.ErrType, "divideSeries(a, b)": 0, "divideSeries(a)": api.ErrCount, "divideSeries(a, b, c)": api.ErrCount, "divideSeries(a, 1)": api.ErrType, "summarize(a, 1, 'x')": 0,
		"summarize(a, 'x', 1)": api.ErrType, "summarize(a, 1)": api.ErrCount, "alias(a, b)": api.ErrType, "alias(a, true)": api.ErrType, "absolute(a, b)": api.ErrCount, "absolute(frob(a, 1))": api.ErrWord, "sumSeries(scale(a), frob(b))": api.ErrCount, "sumSeries(frob(b), scale(a))": api.ErrWord, "sumSeries(frob(b), 1)": api.ErrType,
		"scale(frob(a))": api.ErrCount, "sumSeries(a, frob(b))": api.ErrWord, "sumSeries(absolute(a), b, scale(c))": api.ErrCount, "SumSeries": 0, "sum": 0, "sumSeries(a, b, c, d, e, f, g, h, i, j, k, l, m, n, o, p)": 0, "true(a)": api.ErrWord, "sumseries(a)": api.ErrWord, "aliasByNode(a, 1, 2, 3, 4, 5, 6, 7, 8, 9, 10, 11, 12, 13, 14, 15)": 0,
	} {
		e, _, err := target.Parse(s)
		if err != api.OK || target.Check(e) != want {
			t.Errorf("Check of %q = %d (%d); want %d", s, target.Check(e), err, want)
		}
		if want != 0 && len(target.Paths(e)) != 0 {
			t.Errorf("Paths of %q", s)
		}
	}
	takes := map[string]string{"sumSeries averageSeries maxSeries minSeries diffSeries rangeSeries countSeries group": "(a, b)", "absolute derivative nonNegativeDerivative perSecond integral changed sortByName sortByTotal": "(a)",
		"scale offset removeBelowValue removeAboveValue maximumAbove minimumBelow averageAbove": "(a, 0.5)", "transformNull keepLastValue": "(a, 5)", "movingSum movingAverage movingMax movingMin delay limit highestMax lowestAverage scaleToSeconds": "(a, 5)",
		"summarize groupByNode": "(a, 5, 'x')", "aliasByNode": "(a, 5, 6)", "alias grep exclude": "(a, 'x')", "divideSeries": "(a, b)"}
	for words, args := range takes {
		for _, w := range strings.Fields(words) {
			e, _, _ := target.Parse(w + args)
			if err := target.Check(e); err != api.OK {
				t.Errorf("Check of %s%s = %d", w, args, err)
			}
		}
	}
	for _, e := range []api.Expr{nested(17), call("absolute", many(17, path("a"))...)} {
		if _, err := target.Print(e); target.Check(e) != err {
			t.Error("Print's error is first")
		}
	}
}

func TestP21_4_Paths(t *testing.T) {
	e, _, _ := target.Parse("sumSeries(web.*.hits, scale(b, 0.5), group(c, b), web.*.hits)")
	if l := target.Paths(e); !slices.Equal(l, []string{"web.*.hits", "b", "c", "b", "web.*.hits"}) {
		t.Errorf("Paths = %q", l)
	}
	if l := target.Paths(path("a")); !slices.Equal(l, []string{"a"}) || len(target.Paths(api.Expr{})) != 0 {
		t.Errorf("Paths = %q", l)
	}
}

func randomExpr(r *rand.Rand, depth int) api.Expr {
	switch n := r.Intn(6); {
	case n == 0:
		return path([]string{"a", "a.*", "{a,b}.c", "[0-9]?", "-x", "2000000000"}[r.Intn(6)])
	case n == 1:
		return number(r.Int63n(2*api.MaxValue) - api.MaxValue)
	case n == 2:
		return text([]string{"", "a b", "it's", "\"", "(,)"}[r.Intn(5)])
	case n == 3:
		return boolean(r.Int63n(2))
	case depth > 5:
		return path("a")
	}
	var l []api.Expr
	for range r.Intn(4) {
		l = append(l, randomExpr(r, depth+1))
	}
	return call([]string{"f", "sumSeries", "true"}[r.Intn(3)], l...)
}

func TestP21_5_ThereAndBack(t *testing.T) {
	r := rand.New(rand.NewSource(25))
	for range 5000 {
		e := randomExpr(r, 0)
		s, err := target.Print(e)
		if err != api.OK {
			t.Fatalf("Print(%v): %d", e, err)
		}
		parse(t, s, e)
	}
	for range 50000 {
		b := make([]byte, r.Intn(12))
		for i := range b {
			b[i] = "fa1.,()'\" *{}-"[r.Intn(14)]
		}
		e, place, err := target.Parse(string(b))
		if err != api.OK {
			if place < 0 || place > len(b) {
				t.Fatalf("Parse(%q): place %d", b, place)
			}
			continue
		}
		s, err := target.Print(e)
		if err != api.OK || len(s) > len(b)+strings.Count(string(b), ",") {
			t.Fatalf("Print(Parse(%q)) = %q, %d", b, s, err)
		}
		parse(t, s, e)
	}
}
