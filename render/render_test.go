package render_test

import (
	"math"
	"math/rand"
	"slices"
	"strconv"
	"strings"
	"testing"

	"tumbler/api"
	"tumbler/micro"
	"tumbler/name"
	"tumbler/render"
	"tumbler/target"
	"tumbler/wide"
)

// series is one whose cells stand as decimals, - for none.
func series(n string, from, step int64, cells string) api.Series {
	s := api.Series{Name: n, From: from, Step: step}
	for _, w := range strings.Fields(cells) {
		v, err := micro.Read(w)
		s.Cells = append(s.Cells, api.Cell{Is: err == api.OK, Value: v})
	}
	return s
}

const (
	least    = "-170141183460469231731687303715884.105728"
	greatest = "170141183460469231731687303715884.105727"
)

// world is what is fetched.
func world() []api.Series {
	a := series("a", 0, 10, "1 - 3")
	a.Cells[1].Value = wide.Of(99) // what has no value is not looked at
	return []api.Series{a, series("b", 0, 10, "2 2 -"), series("c", 0, 10, "-5 4 0.5"), series("none", 0, 10, "- - -"), series("long", 100, 5, "- 7 - - 3 9 - - -"),
		series("other", 7, 10, "1 2 3"), series("empty", 25, 10, ""), series("least", 0, 1, least+" - 0"), series("greatest", 0, 1, greatest+" "+greatest+" -1"), series("both", 0, 1, greatest+" "+least), series("swing", 0, 1, greatest+" 1 -1 -2"),
		series("web.x.hits", 0, 10, "1 2 3"), series("web.y.hits", 0, 10, "1 - 3"), series("db.x.hits", 0, 10, "5 5 5"), series("no name", 0, 10, "1"), series("zero", 0, 10, "0 1 -2")}
}

func fetch(p api.Pattern) []api.Series {
	var l []api.Series
	for _, s := range world() {
		text, _ := name.Text(p)
		if name.Match(p, s.Name) || text == "odd" && s.Name == "no name" || text == "all" && len(s.Cells) == 3 && s.Step == 10 && s.From == 0 {
			l = append(l, s)
		}
	}
	return l
}

func eval(t *testing.T, text string) ([]api.Series, api.Errno) {
	t.Helper()
	e, place, err := target.Parse(text)
	if err != api.OK {
		t.Fatalf("Parse(%q): %d at %d", text, err, place)
	}
	return render.Eval(e, fetch)
}

// show is a series as a text.
func show(s api.Series) string {
	l := []string{s.Name + ":", strconv.FormatInt(s.From, 10), strconv.FormatInt(s.Step, 10) + ":"}
	for _, c := range s.Cells {
		switch {
		case c.Is:
			l = append(l, micro.Show(c.Value))
		case c.Value == api.Wide{}:
			l = append(l, "-")
		default:
			l = append(l, "?")
		}
	}
	return strings.Join(l, " ")
}

func means(t *testing.T, text string, want ...string) {
	t.Helper()
	l, err := eval(t, text)
	var got []string
	for _, s := range l {
		got = append(got, show(s))
	}
	if err != api.OK || !slices.Equal(got, want) {
		t.Errorf("%s = %d %q; want %q", text, err, got, want)
	}
}

func fails(t *testing.T, text string, want api.Errno) {
	t.Helper()
	if l, err := eval(t, text); len(l) != 0 || err != want {
		t.Errorf("%s = %v, %d; want %d", text, l, err, want)
	}
}

func TestP22_1_Eval(t *testing.T) {
	means(t, "a", "a: 0 10: 1 - 3")
	means(t, "nothing")
	means(t, "[ab]", "a: 0 10: 1 - 3", "b: 0 10: 2 2 -")
	path := api.Expr{Kind: api.EPath, Text: "a"}
	for _, c := range []struct {
		e    api.Expr
		f    func(api.Pattern) []api.Series
		want api.Errno
	}{{api.Expr{}, nil, api.ErrSyntax}, {api.Expr{Kind: api.ENumber}, nil, api.ErrType}, {path, nil, api.ErrNil}, {api.Expr{Kind: api.ECall, Text: "frob", Args: []api.Expr{path}}, fetch, api.ErrWord}, {api.Expr{Kind: api.ECall, Text: "scale", Args: []api.Expr{path}}, nil, api.ErrCount}} {
		if l, err := render.Eval(c.e, c.f); len(l) != 0 || err != c.want {
			t.Errorf("Eval(%v): %d; want %d", c.e, err, c.want)
		}
	}
	good := api.Series{Name: strings.Repeat("é", 100), From: api.MaxStamp, Step: api.MaxStamp, Cells: make([]api.Cell, api.MaxSteps)}
	if _, err := render.Eval(path, func(api.Pattern) []api.Series { return []api.Series{good, {Step: 1}} }); err != api.OK {
		t.Errorf("a series that may be: %d", err)
	}
	for _, change := range []func(*api.Series){func(s *api.Series) { s.Name += "a" }, func(s *api.Series) { s.From++ }, func(s *api.Series) { s.From = -1 }, func(s *api.Series) { s.Step = 0 }, func(s *api.Series) { s.Step = -1 }, func(s *api.Series) { s.Step++ }, func(s *api.Series) { s.Cells = make([]api.Cell, api.MaxSteps+1) }} {
		bad := good
		change(&bad)
		if l, err := render.Eval(path, func(api.Pattern) []api.Series { return []api.Series{{Step: 1}, bad} }); len(l) != 0 || err != api.ErrPoint {
			t.Errorf("a series that may not be: %d", err)
		}
	}
	// The series are looked through from the left, each whole, ahead of the call's own errors.
	fails(t, "sumSeries(a, other)", api.ErrSteps)
	fails(t, "sumSeries(offset(greatest, 1), sumSeries(a, other))", api.ErrOver)
	fails(t, "sumSeries(sumSeries(a, other), offset(greatest, 1))", api.ErrSteps)
	fails(t, "summarize(sumSeries(a, other), 10, 'x')", api.ErrSteps)
	fails(t, "divideSeries([ab], absolute(least))", api.ErrOver)
}

func TestP22_2_Together(t *testing.T) {
	means(t, "sumSeries(a, b)", "sumSeries(a,b): 0 10: 3 2 3")
	means(t, "averageSeries(a,b)", "averageSeries(a,b): 0 10: 1.5 2 3")
	means(t, "diffSeries(a,b)", "diffSeries(a,b): 0 10: -1 2 3")
	means(t, "countSeries(a,b)", "countSeries(a,b): 0 10: 2 1 1")
	means(t, "rangeSeries(a,b)", "rangeSeries(a,b): 0 10: 1 0 0")
	means(t, "maxSeries(all)", "maxSeries(a,b,c,none,web.x.hits,web.y.hits,db.x.hits,zero): 0 10: 5 5 5")
	means(t, "minSeries([ab], c)", "minSeries(a,b,c): 0 10: -5 2 0.5")
	means(t, "averageSeries(c,c,b)", "averageSeries(c,c,b): 0 10: -2.666666 3.333333 0.5")
	means(t, "sumSeries(none)", "sumSeries(none): 0 10: - - -")
	means(t, "countSeries(none)", "countSeries(none): 0 10: 0 0 0")
	means(t, "diffSeries(none, c, a)", "diffSeries(none,c,a): 0 10: -6 4 -2.5")
	means(t, "diffSeries(none)", "diffSeries(none): 0 10: - - -")
	means(t, "averageSeries(none)", "averageSeries(none): 0 10: - - -")
	means(t, "maxSeries(none, none)", "maxSeries(none,none): 0 10: - - -")
	means(t, "minSeries(none)", "minSeries(none): 0 10: - - -")
	means(t, "rangeSeries(none)", "rangeSeries(none): 0 10: - - -")
	means(t, "sumSeries(empty, empty)", "sumSeries(empty,empty): 25 10:")
	means(t, "group(b, nothing, [ab])", "b: 0 10: 2 2 -", "a: 0 10: 1 - 3", "b: 0 10: 2 2 -")
	means(t, "group(a, other)", "a: 0 10: 1 - 3", "other: 7 10: 1 2 3")
	for _, f := range []string{"sumSeries", "averageSeries", "maxSeries", "minSeries", "diffSeries", "rangeSeries", "countSeries", "group"} {
		means(t, f+"(nothing)")
		if f != "group" {
			fails(t, f+"(a, other)", api.ErrSteps)
			fails(t, f+"(a, long)", api.ErrSteps)
			fails(t, f+"(a, empty)", api.ErrSteps)
		}
	}
	fails(t, "sumSeries(greatest, greatest)", api.ErrOver)
	fails(t, "averageSeries(greatest, greatest)", api.ErrOver)
	fails(t, "rangeSeries(both, alias(delay(both, 0), 'x'), delay(offset(both, 0), 1))", api.ErrOver)
	fails(t, "diffSeries(transformNull(delay(both, 9)), both)", api.ErrOver)
	means(t, "diffSeries(both, both, offset(delay(both, 9), 1))", "diffSeries(both,both,both): 0 1: 0 0")
	means(t, "averageSeries(both)", "averageSeries(both): 0 1: "+greatest+" "+least)
}

func TestP22_2_SumsAtOnce(t *testing.T) {
	// The sums of some of these have no room; those of all have.
	cells := func(v ...string) []api.Series {
		var l []api.Series
		for _, x := range v {
			l = append(l, series("s", 0, 1, x))
		}
		return l
	}
	for _, c := range []struct {
		text string
		l    []api.Series
		want string
	}{{"sumSeries(s)", cells(greatest, greatest, least, "-1"), "170141183460469231731687303715883.105726"}, {"diffSeries(s)", cells("-1", least, greatest), "-0.999999"}, {"diffSeries(s)", cells(least, least, greatest, least), "0.000001"}, {"averageSeries(s)", cells(greatest, "1", "-1"), "56713727820156410577229101238628.035242"}} {
		e, _, _ := target.Parse(c.text)
		l, err := render.Eval(e, func(api.Pattern) []api.Series { return c.l })
		if err != api.OK || len(l) != 1 || micro.Show(l[0].Cells[0].Value) != c.want {
			t.Errorf("%s of %v = %v, %d", c.text, c.l, l, err)
		}
	}
}

func TestP22_3_EachByItself(t *testing.T) {
	for text, want := range map[string]string{
		"absolute(c)": "c: 0 10: 5 4 0.5", "scale(c, -0.5)": "c: 0 10: 2.5 -2 -0.25", "scale(a, 0.333333)": "a: 0 10: 0.333333 - 0.999999", "offset(a, -1.5)": "a: 0 10: -0.5 - 1.5", "scaleToSeconds(a, 60)": "a: 0 10: 6 - 18", "scaleToSeconds(c, 3)": "c: 0 10: -1.5 1.2 0.15",
		"removeBelowValue(c, 0.5)": "c: 0 10: - 4 0.5", "removeAboveValue(c, 0.5)": "c: 0 10: -5 - 0.5", "derivative(b)": "b: 0 10: - 0 -", "derivative(c)": "c: 0 10: - 9 -3.5", "nonNegativeDerivative(c)": "c: 0 10: - 9 -", "nonNegativeDerivative(b)": "b: 0 10: - 0 -", "perSecond(db.x.hits)": "db.x.hits: 0 10: - 0 0", "perSecond(web.x.hits)": "web.x.hits: 0 10: - 0.1 0.1",
		"perSecond(keepLastValue(a))": "a: 0 10: - 0 0.2", "integral(a)": "a: 0 10: 1 - 4", "integral(c)": "c: 0 10: -5 -1 -0.5", "changed(a)": "a: 0 10: 0 0 1", "changed(b)": "b: 0 10: 0 0 0", "changed(long)": "long: 100 5: 0 0 0 0 1 1 0 0 0", "changed(none)": "none: 0 10: 0 0 0", "transformNull(a, 7)": "a: 0 10: 1 7 3", "transformNull(a)": "a: 0 10: 1 0 3",
		"transformNull(none, -0.5)": "none: 0 10: -0.5 -0.5 -0.5", "keepLastValue(long)": "long: 100 5: - 7 7 7 3 9 9 9 9", "keepLastValue(long, 2)": "long: 100 5: - 7 7 7 3 9 - - -", "keepLastValue(long, 1)": "long: 100 5: - 7 - - 3 9 - - -", "keepLastValue(long, 3)": "long: 100 5: - 7 7 7 3 9 9 9 9", "keepLastValue(b, 0)": "b: 0 10: 2 2 -", "keepLastValue(none)": "none: 0 10: - - -",
		"movingAverage(a, 2)": "a: 0 10: 1 1 3", "movingSum(long, 3)": "long: 100 5: - 7 7 7 3 12 12 9 -", "movingAverage(long, 3)": "long: 100 5: - 7 7 7 3 6 6 9 -", "movingMax(long, 3)": "long: 100 5: - 7 7 7 3 9 9 9 -", "movingMin(long, 3)": "long: 100 5: - 7 7 7 3 3 3 9 -", "movingMin(long, 99)": "long: 100 5: - 7 7 7 3 3 3 3 3", "movingSum(b, 1)": "b: 0 10: 2 2 -",
		"movingSum(a, 0)": "a: 0 10: - - -", "movingMax(a, 0)": "a: 0 10: - - -", "movingMin(a, 0)": "a: 0 10: - - -", "movingAverage(a, 0)": "a: 0 10: - - -", "movingMax(c, 16384)": "c: 0 10: -5 4 4", "delay(b, 1)": "b: 0 10: - 2 2", "delay(b, 0)": "b: 0 10: 2 2 -", "delay(b, 99)": "b: 0 10: - - -", "alias(a, 'it is')": "it is: 0 10: 1 - 3", "alias(a, '')": ": 0 10: 1 - 3",
		"aliasByNode(web.x.hits, 1)": "x: 0 10: 1 2 3", "aliasByNode(web.x.hits, 2, 0, 9, 2)": "hits.web.hits: 0 10: 1 2 3", "aliasByNode(a, 3)": ": 0 10: 1 - 3", "aliasByNode(odd, 0)": ": 0 10: 1", "absolute(empty)": "empty: 25 10:", "derivative(empty)": "empty: 25 10:", "movingSum(empty, 3)": "empty: 25 10:", "keepLastValue(empty)": "empty: 25 10:",
		"scale(least, 0)": "least: 0 1: 0 - 0", "offset(least, 0)": "least: 0 1: " + least + " - 0", "movingMin(greatest, 2)": "greatest: 0 1: " + greatest + " " + greatest + " -1",
	} {
		means(t, text, want)
	}
	means(t, "absolute([ac])", "a: 0 10: 1 - 3", "c: 0 10: 5 4 0.5")
	means(t, "delay(nothing, 1)")
	for _, s := range []string{"absolute(least)", "offset(least, -0.000001)", "offset(greatest, 0.000001)", "scale(greatest, 1000000)", "scale(least, 1)", "scaleToSeconds(greatest, 2)", "derivative(both)", "nonNegativeDerivative(both)", "perSecond(both)", "integral(greatest)", "movingSum(greatest, 2)", "movingAverage(greatest, 2)", "movingSum(swing, 2)"} {
		fails(t, s, api.ErrOver)
	}
	means(t, "movingSum(swing, 1)", "swing: 0 1: "+greatest+" 1 -1 -2")
	means(t, "movingSum(offset(greatest, 0), 1)", "greatest: 0 1: "+greatest+" "+greatest+" -1")
}

func TestP22_4_WhichAndInWhatOrder(t *testing.T) {
	a, b, c, none := "a: 0 10: 1 - 3", "b: 0 10: 2 2 -", "c: 0 10: -5 4 0.5", "none: 0 10: - - -"
	zero := "zero: 0 10: 0 1 -2"
	means(t, "sortByName(group(b, none, a, c, a))", a, a, b, c, none)
	means(t, "sortByName(group(alias(b, 'a'), a))", "a: 0 10: 2 2 -", a)
	means(t, "sortByTotal(group(c, none, a, b, zero))", a, b, none, c, zero)
	means(t, "sortByTotal(group(b, a))", b, a)
	means(t, "limit(group(b, a, c), 2)", b, a)
	means(t, "limit(group(b, a), 0)")
	means(t, "limit(group(b, a), 9)", b, a)
	means(t, "highestMax(group(a,b), 1)", a)
	means(t, "highestMax(group(none, b, a, c), 9)", c, a, b, none)
	means(t, "highestMax(group(none, b), 2)", b, none)
	means(t, "highestMax(group(b, alias(b, 'x')), 2)", b, "x: 0 10: 2 2 -")
	means(t, "highestMax(group(b, none), 2)", b, none)
	means(t, "lowestAverage(group(b, none), 2)", b, none)
	means(t, "highestMax(a, 0)")
	means(t, "lowestAverage(group(none, a, b, c), 9)", c, a, b, none)
	means(t, "lowestAverage(group(a, b, c), 1)", c)
	means(t, "maximumAbove(group(a, none, b, c), 3)", c)
	means(t, "maximumAbove(group(a, none, b, c), 2.999999)", a, c)
	means(t, "minimumBelow(group(a, none, b, c), 1)", c)
	means(t, "minimumBelow(group(a, none, b, c), 1.000001)", a, c)
	means(t, "averageAbove(group(a,b), 1.9)", a, b)
	means(t, "averageAbove(group(a, none, b, c), 2)")
	means(t, "averageAbove(group(a, none, b, c), -1)", a, b, c)
	means(t, "grep(group(a, none, web.*.hits), 'n')", none)
	means(t, "grep(group(a, none), '')", a, none)
	means(t, "exclude(group(a, none, b), 'n')", a, b)
	means(t, "exclude(group(a, none, b), '')")
	for _, f := range []string{"sortByTotal(greatest)", "lowestAverage(greatest, 0)", "averageAbove(greatest, 1)"} {
		fails(t, f, api.ErrOver)
	}
	means(t, "highestMax(greatest, 1)", "greatest: 0 1: "+greatest+" "+greatest+" -1")
}

func TestP22_5_Others(t *testing.T) {
	means(t, "summarize(a, 20, 'sum')", "a: 0 20: 1 3")
	means(t, "summarize(a, 10, 'sum')", "a: 0 10: 1 - 3")
	means(t, "summarize(long, 10, 'sum')", "long: 100 10: 7 - 12 - -")
	means(t, "summarize(long, 15, 'max')", "long: 90 15: - 7 9 -")
	means(t, "summarize(long, 15, 'min')", "long: 90 15: - 7 3 -")
	means(t, "summarize(long, 30, 'avg')", "long: 90 30: 7 6")
	means(t, "summarize(long, 30, 'last')", "long: 90 30: 7 9")
	means(t, "summarize(long, 10, 'last')", "long: 100 10: 7 - 9 - -")
	means(t, "summarize(long, 10, 'min')", "long: 100 10: 7 - 3 - -")
	means(t, "summarize(long, 30, 'min')", "long: 90 30: 7 3")
	means(t, "summarize(other, 20, 'sum')", "other: 0 20: 3 3")
	means(t, "summarize(empty, 20, 'sum')", "empty: 20 20:")
	means(t, "summarize(empty, 30, 'sum')", "empty: 0 30:")
	means(t, "summarize(nothing, 0, 'sum')")
	fails(t, "summarize(a, 15, 'sum')", api.ErrArg)
	fails(t, "summarize(a, 5, 'sum')", api.ErrArg)
	fails(t, "summarize(empty, 0, 'sum')", api.ErrArg)
	for _, w := range []string{"", "Sum", "count", "average", "sumSeries", "range", "diff"} {
		fails(t, "summarize(a, 0, '"+w+"')", api.ErrWord)
	}
	fails(t, "summarize(group(greatest, a), 5, 'sum')", api.ErrOver)
	fails(t, "summarize(group(a, greatest), 5, 'sum')", api.ErrArg)

	means(t, "groupByNode(*.*.hits, 1, 'sum')", "x: 0 10: 6 7 8", "y: 0 10: 1 - 3")
	means(t, "groupByNode(group(db.x.hits, a, web.*.hits), 0, 'count')", "db: 0 10: 1 1 1", "a: 0 10: 1 0 1", "web: 0 10: 2 1 2")
	for w, want := range map[string]string{"avg": "3 3.5 4", "max": "5 5 5", "min": "1 2 3", "diff": "-4 -3 -2", "range": "4 3 2", "count": "2 2 2"} {
		means(t, "groupByNode({web,db}.x.hits, 2, '"+w+"')", "hits: 0 10: "+want)
	}
	means(t, "groupByNode(group(a, odd), 1, 'sum')")
	means(t, "groupByNode(nothing, 1, 'sum')")
	for _, w := range []string{"", "last", "sumSeries"} {
		fails(t, "groupByNode(a, 0, '"+w+"')", api.ErrWord)
	}
	fails(t, "groupByNode(group(a, alias(other, 'a')), 0, 'sum')", api.ErrSteps)
	means(t, "groupByNode(group(a, other), 0, 'sum')", "a: 0 10: 1 - 3", "other: 7 10: 1 2 3")

	means(t, "divideSeries(b, a)", "divideSeries(b,a): 0 10: 2 - -")
	means(t, "divideSeries([ac], zero)", "divideSeries(a,zero): 0 10: - - -1.5", "divideSeries(c,zero): 0 10: - 4 -0.25")
	means(t, "divideSeries(nothing, a)")
	fails(t, "divideSeries(a, nothing)", api.ErrCount)
	fails(t, "divideSeries(nothing, [ab])", api.ErrCount)
	fails(t, "divideSeries(a, other)", api.ErrSteps)
	fails(t, "divideSeries(group(greatest, a), greatest)", api.ErrOver)
	means(t, "divideSeries(group(a), a)", "divideSeries(a,a): 0 10: 1 - 1")
}

func TestP22_6_7_WhatFollows(t *testing.T) {
	means(t, "scale(group(a, c), 1)", "a: 0 10: 1 - 3", "c: 0 10: -5 4 0.5")
	means(t, "limit(delay(offset(group(a, c), 0), 0), 2)", "a: 0 10: 1 - 3", "c: 0 10: -5 4 0.5")
	one, _ := eval(t, "alias(sumSeries(sumSeries(web.x.hits, db.x.hits), zero), 'x')")
	two, _ := eval(t, "alias(sumSeries(web.x.hits, db.x.hits, zero), 'x')")
	if !equal(one, two) {
		t.Errorf("sums of sums: %v; want %v", one, two)
	}
	r := rand.New(rand.NewSource(26))
	for range 300 {
		var cells strings.Builder
		for range r.Intn(30) {
			cells.WriteString([]string{"- ", "1 ", "-3 ", "0.5 ", "8 ", "- "}[r.Intn(6)])
		}
		s := series("s", r.Int63n(100), 1+r.Int63n(5), cells.String())
		by := r.Intn(9)
		for _, f := range []string{"movingSum", "movingAverage", "movingMax", "movingMin"} {
			e, _, _ := target.Parse(f + "(s, " + strconv.Itoa(by) + ")")
			l, err := render.Eval(e, func(api.Pattern) []api.Series { return []api.Series{s} })
			if err != api.OK {
				t.Fatal(err)
			}
			for i, c := range l[0].Cells {
				if c != plain(f, s.Cells[max(0, i-by+1):i+1]) {
					t.Fatalf("%s(%s, %d) = %s", f, show(s), by, show(l[0]))
				}
			}
		}
	}
}

// plain is a moving function of the last cells, by its meaning.
func plain(f string, cells []api.Cell) api.Cell {
	var l []int64
	for _, c := range cells {
		if v, _ := wide.Small(c.Value); c.Is {
			l = append(l, v)
		}
	}
	if len(l) == 0 {
		return api.Cell{}
	}
	var sum int64
	for _, v := range l {
		sum += v
	}
	v := map[string]int64{"movingSum": sum, "movingAverage": sum / int64(len(l)), "movingMax": slices.Max(l), "movingMin": slices.Min(l)}[f]
	return api.Cell{Is: true, Value: wide.Of(v)}
}

func TestP22_8_NothingShared(t *testing.T) {
	kept := world()
	held := func(api.Pattern) []api.Series { return kept }
	for _, s := range []string{"x", "group(x, x)", "alias(x, 'y')", "sortByName(x)", "limit(x, 99)", "keepLastValue(x)", "grep(x, '')", "transformNull(x)", "aliasByNode(x, 0)", "highestMax(x, 99)"} {
		e, _, _ := target.Parse(s)
		l, err := render.Eval(e, held)
		if err != api.OK {
			t.Fatalf("%s: %d", s, err)
		}
		for i := range l {
			for j := range l[i].Cells {
				l[i].Cells[j] = api.Cell{Is: true, Value: wide.Of(math.MaxInt64 - int64(i))}
			}
		}
		for i := range l {
			for _, c := range l[i].Cells {
				if c.Value != wide.Of(math.MaxInt64-int64(i)) {
					t.Fatalf("%s: two series share cells", s)
				}
			}
		}
		if !equal(kept, world()) {
			t.Fatalf("%s changes what is fetched", s)
		}
	}
}
