package sink_test

import (
	"fmt"
	"strings"
)

// equal tells whether two answers are the same; lists that are nil and that are empty are.
func equal(a, b any) bool {
	show := func(x any) string { return strings.ReplaceAll(fmt.Sprintf("%#v", x), "(nil)", "{}") }
	return show(a) == show(b)
}
