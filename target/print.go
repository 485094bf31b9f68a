package target

import (
	"strings"

	"tumbler/api"
	"tumbler/micro"
)

// Print writes one.
func Print(e api.Expr) (string, api.Errno) {
	switch {
	case !may(e):
		return "", api.ErrSyntax
	case depth(e) > api.MaxDepth:
		return "", api.ErrDeep
	case most(e) > api.MaxArgs:
		return "", api.ErrMany
	}
	var out strings.Builder
	write(&out, e)
	if out.Len() > api.MaxText {
		return "", api.ErrLong
	}
	return out.String(), api.OK
}

// may tells whether some text gives the expression, but for how deep it is and how many arguments there are.
func may(e api.Expr) bool {
	switch e.Kind {
	case api.EPath, api.ENumber, api.EBool:
		return len(e.Args) == 0 && mayStand(e)
	case api.EText:
		return len(e.Args) == 0 && e.Value == 0 && mayQuote(e.Text)
	case api.ECall:
		for _, a := range e.Args {
			if !may(a) {
				return false
			}
		}
		return e.Value == 0 && functionName(e.Text)
	}
	return false
}

// mayStand tells whether a path, a number or a bool is what its word means.
func mayStand(e api.Expr) bool {
	again := plain(wordOf(e))
	return again.Kind == e.Kind && again.Text == e.Text && again.Value == e.Value
}

// wordOf is the word of a path, a number or a bool.
func wordOf(e api.Expr) string {
	switch {
	case e.Kind == api.EPath:
		return e.Text
	case e.Kind == api.ENumber:
		return micro.Print(e.Value)
	case e.Value != 0:
		return "true"
	}
	return "false"
}

// mayQuote tells whether a text can stand between quotes.
func mayQuote(s string) bool {
	for i := range len(s) {
		if !printed(s[i]) {
			return false
		}
	}
	return !strings.Contains(s, "'") || !strings.Contains(s, "\"")
}

// depth is how many calls stand within one another, at most.
func depth(e api.Expr) int {
	if e.Kind != api.ECall {
		return 0
	}
	n := 0
	for _, a := range e.Args {
		n = max(n, depth(a))
	}
	return n + 1
}

// most is how many arguments a call has, at most.
func most(e api.Expr) int {
	n := len(e.Args)
	for _, a := range e.Args {
		n = max(n, most(a))
	}
	return n
}

// write writes an expression that may be.
func write(out *strings.Builder, e api.Expr) {
	switch e.Kind {
	case api.ECall:
		out.WriteString(e.Text + "(")
		for i, a := range e.Args {
			if i > 0 {
				out.WriteString(", ")
			}
			write(out, a)
		}
		out.WriteString(")")
	case api.EText:
		quote := "'"
		if strings.Contains(e.Text, quote) {
			quote = "\""
		}
		out.WriteString(quote + e.Text + quote)
	default:
		out.WriteString(wordOf(e))
	}
}
