package target

import (
	"strings"

	"tumbler/api"
)

// signature is the kinds of arguments that some functions take: a letter each, and behind it ? of one that may be
// missing, + of one that stands once or more often.
type signature struct {
	kinds string
	words string
}

// signatures are those of all functions.
var signatures = [10]signature{
	{"S+", "sumSeries averageSeries maxSeries minSeries diffSeries rangeSeries countSeries group"},
	{"S", "absolute derivative nonNegativeDerivative perSecond integral changed sortByName sortByTotal"},
	{"SN", "scale offset removeBelowValue removeAboveValue maximumAbove minimumBelow averageAbove"},
	{"SN?", "transformNull"},
	{"SI?", "keepLastValue"},
	{"SI", "movingSum movingAverage movingMax movingMin delay limit highestMax lowestAverage scaleToSeconds"},
	{"SIT", "summarize groupByNode"},
	{"SI+", "aliasByNode"},
	{"ST", "alias grep exclude"},
	{"SS", "divideSeries"},
}

// kindsOf are the kinds of a function's arguments; empty: there is no such function.
func kindsOf(word string) string {
	for _, s := range signatures {
		for _, w := range strings.Fields(s.words) {
			if w == word {
				return s.kinds
			}
		}
	}
	return ""
}

// Check tells whether one has a meaning.
func Check(e api.Expr) api.Errno {
	if _, err := Print(e); err != api.OK {
		return err
	}
	if !series(e) {
		return api.ErrType
	}
	return checkCalls(e)
}

// series tells whether it means series.
func series(e api.Expr) bool {
	return e.Kind == api.EPath || e.Kind == api.ECall
}

// checkCalls looks at a call, and then at those in its arguments.
func checkCalls(e api.Expr) api.Errno {
	if e.Kind != api.ECall {
		return api.OK
	}
	if err := checkCall(e); err != api.OK {
		return err
	}
	for _, a := range e.Args {
		if err := checkCalls(a); err != api.OK {
			return err
		}
	}
	return api.OK
}

// checkCall looks at a call's function and the kinds of its arguments.
func checkCall(e api.Expr) api.Errno {
	kinds := kindsOf(e.Text)
	if kinds == "" {
		return api.ErrWord
	}
	letters, mark := kinds, byte(0)
	if last := kinds[len(kinds)-1]; last == '?' || last == '+' {
		letters, mark = kinds[:len(kinds)-1], last
	}
	least, most := len(letters), len(letters)
	switch mark {
	case '?':
		least--
	case '+':
		most = api.MaxArgs
	}
	if len(e.Args) < least || len(e.Args) > most {
		return api.ErrCount
	}
	for i, a := range e.Args {
		if !ofKind(a, letters[min(i, len(letters)-1)]) {
			return api.ErrType
		}
	}
	return api.OK
}

// ofKind tells whether an argument is of a kind.
func ofKind(e api.Expr, kind byte) bool {
	switch kind {
	case 'S':
		return series(e)
	case 'N':
		return e.Kind == api.ENumber
	case 'I':
		return e.Kind == api.ENumber && e.Value%api.Unit == 0 && e.Value >= 0 && e.Value <= api.MaxSteps*api.Unit
	case 'T':
		return e.Kind == api.EText
	}
	return false
}

// Paths are its patterns, from the left.
func Paths(e api.Expr) []string {
	if Check(e) != api.OK {
		return nil
	}
	return paths(nil, e)
}

// paths puts those of an expression behind others.
func paths(l []string, e api.Expr) []string {
	if e.Kind == api.EPath {
		return append(l, e.Text)
	}
	for _, a := range e.Args {
		l = paths(l, a)
	}
	return l
}
