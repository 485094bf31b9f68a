package daemon

import (
	"strconv"
	"strings"

	"tumbler/api"
)

// refusal is why a script is not played, and at which line.
type refusal struct {
	line int
	err  api.Errno
}

// Error tells the line and the number.
func (r refusal) Error() string {
	return "line " + strconv.Itoa(r.line) + ": " + r.err.Error()
}

// Unwrap is the number.
func (r refusal) Unwrap() error { return r.err }

// command is a line that does something, and its block.
type command struct {
	form  form
	words []string // behind the command's own
	line  string   // as it stands
	block string   // its lines, with a byte 10 behind each
}

// script is what a text says.
type script struct {
	setup     string
	setupLine int // 0: there is none
	plan      []api.Choice
	commands  []command
}

// readScript reads a text, or tells a refusal.
func readScript(text string) (*script, error) {
	if len(text) > api.MaxText {
		return nil, refusal{0, api.ErrLong}
	}
	lines := strings.Split(text, "\n")
	if lines[len(lines)-1] == "" {
		lines = lines[:len(lines)-1]
	}
	if len(lines) > api.MaxLines {
		return nil, refusal{0, api.ErrMany}
	}
	s := &script{}
	for i := 0; i < len(lines); {
		used, ok := s.take(lines[i], lines[i+1:], i+1)
		if !ok {
			return nil, refusal{i + 1, api.ErrScript}
		}
		i += used
	}
	return s, nil
}

// take takes a line, and of those behind it its block: how many lines that are, and whether it is as it must be.
func (s *script) take(line string, behind []string, number int) (int, bool) {
	words := wordsOf(line)
	if len(words) == 0 || words[0][0] == '#' {
		return 1, true
	}
	first := s.setupLine == 0 && len(s.plan) == 0 && len(s.commands) == 0
	if first && words[0] == "setup" {
		block, used, ok := blockOf(behind)
		s.setup, s.setupLine = block, number
		return 1 + used, ok && len(words) == 1
	}
	for _, f := range forms() {
		if f.word != words[0] {
			continue
		}
		if !mayArgue(f.args, words[1:]) {
			return 0, false
		}
		if f.do == nil {
			return 1, s.takePlan(words[1:])
		}
		c := command{form: f, words: words[1:], line: line}
		used := 0
		ok := true
		if f.block {
			c.block, used, ok = blockOf(behind)
		}
		s.commands = append(s.commands, c)
		return 1 + used, ok
	}
	return 0, false
}

// takePlan puts choices behind the plan; that must stand ahead of all other commands.
func (s *script) takePlan(words []string) bool {
	for _, w := range words {
		c, ok := choiceOf(w)
		if !ok {
			return false
		}
		s.plan = append(s.plan, c)
	}
	return len(s.commands) == 0
}

// blank tells whether a byte parts words.
func blank(r rune) bool { return r == ' ' || r == '\t' }

// wordsOf are the words of a line.
func wordsOf(line string) []string { return strings.FieldsFunc(line, blank) }

// behind is what stands behind the first n words of a line, and the blanks there.
func behind(line string, n int) string {
	for range n {
		line = strings.TrimLeftFunc(line, blank)
		line = strings.TrimLeftFunc(line, func(r rune) bool { return !blank(r) })
	}
	return strings.TrimLeftFunc(line, blank)
}

// blockOf is a block's text, and how many lines it has with its end, and whether it has one.
func blockOf(lines []string) (string, int, bool) {
	var out strings.Builder
	for i, line := range lines {
		if words := wordsOf(line); len(words) == 1 && words[0] == "end" {
			return out.String(), i + 1, true
		}
		out.WriteString(line + "\n")
	}
	return "", 0, false
}

// mayArgue tells whether words are such as a form asks for: a letter for each, w any word, n a number, and at the end
// + of one word or more.
func mayArgue(args string, words []string) bool {
	for i := range len(args) {
		if i >= len(words) {
			return false
		}
		switch args[i] {
		case '+':
			return true
		case 'n':
			if _, ok := numberOf(words[i], 15); !ok {
				return false
			}
		}
	}
	return len(words) == len(args)
}

// numberOf is a whole number of at most so many digits.
func numberOf(s string, most int) (int64, bool) {
	if s == "" || len(s) > most {
		return 0, false
	}
	var n int64
	for i := range len(s) {
		if s[i] < '0' || s[i] > '9' {
			return 0, false
		}
		n = n*10 + int64(s[i]-'0')
	}
	return n, true
}

// choiceOf is a choice of the sink's plan.
func choiceOf(s string) (api.Choice, bool) {
	digits, fail := strings.CutSuffix(s, "!")
	n, ok := numberOf(digits, 9)
	return api.Choice{Count: int(n), Fail: fail}, ok
}
