package micro

import (
	"strings"

	"tumbler/api"
	"tumbler/wide"
)

// Read is the wide micro-value of a decimal.
func Read(s string) (api.Wide, api.Errno) {
	amount, neg := strings.CutPrefix(s, "-")
	whole, fraction, pointed := strings.Cut(amount, ".")
	if !digits(whole) || pointed && !digits(fraction) {
		return api.Wide{}, api.ErrDecimal
	}
	if len(fraction) > fine {
		return api.Wide{}, api.ErrFine
	}
	// As millionths it is a whole number, whose text package wide reads.
	text := strings.TrimLeft(whole+fraction+strings.Repeat("0", fine-len(fraction)), "0")
	switch {
	case text == "":
		return api.Wide{}, api.OK
	case neg:
		text = "-" + text
	}
	return wide.Parse(text)
}

// digits tells whether it is one digit or more, and nothing else.
func digits(s string) bool {
	for _, r := range s {
		if r < '0' || r > '9' {
			return false
		}
	}
	return s != ""
}

// Show is a wide micro-value as a decimal.
func Show(w api.Wide) string {
	text, neg := strings.CutPrefix(wide.Print(w), "-")
	if len(text) <= fine {
		text = strings.Repeat("0", fine+1-len(text)) + text
	}
	point := len(text) - fine
	s := text[:point]
	if fraction := strings.TrimRight(text[point:], "0"); fraction != "" {
		s += "." + fraction
	}
	if neg {
		s = "-" + s
	}
	return s
}
