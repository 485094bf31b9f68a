package config

import (
	"strconv"
	"strings"

	"tumbler/api"
	"tumbler/micro"
)

// field is a key and where its value goes.
type field struct {
	key   string
	usual string // the value where the key is missing
	set   func(value string) bool
	get   func() string
}

// blanks are the bytes that mean nothing.
const blanks = " \t\r"

// words are those of a value.
func words(value string) []string {
	return strings.FieldsFunc(value, func(r rune) bool { return strings.ContainsRune(blanks, r) })
}

// readWhole reads a whole number in the one form in which it is written.
func readWhole(s string) (int64, bool) {
	n, err := strconv.ParseInt(s, 10, 64)
	return n, err == nil && writeWhole(n) == s
}

func writeWhole(n int64) string { return strconv.FormatInt(n, 10) }

// readSmall reads a decimal that an int64 holds.
func readSmall(s string) (int64, bool) {
	w, err := micro.Read(s)
	v, ok := micro.Fits(w)
	return v, err == api.OK && ok
}

// whole is a whole number.
func whole(key, usual string, at *int64) field {
	return field{key, usual, func(value string) bool {
		n, ok := readWhole(value)
		*at = n
		return ok
	}, func() string { return writeWhole(*at) }}
}

// count is a whole number that an int holds.
func count(key, usual string, at *int) field {
	return field{key, usual, func(value string) bool {
		n, ok := readWhole(value)
		*at = int(n)
		return ok && int64(*at) == n
	}, func() string { return writeWhole(int64(*at)) }}
}

// small is a small decimal.
func small(key, usual string, at *int64) field {
	return field{key, usual, func(value string) bool {
		v, ok := readSmall(value)
		*at = v
		return ok
	}, func() string { return micro.Print(*at) }}
}

// decimal is any decimal.
func decimal(key, usual string, at *api.Wide) field {
	return field{key, usual, func(value string) bool {
		w, err := micro.Read(value)
		*at = w
		return err == api.OK
	}, func() string { return micro.Show(*at) }}
}

// word is a word or nothing.
func word(key string, at *string) field {
	return field{key, "", func(value string) bool {
		*at = value
		return len(words(value)) <= 1
	}, func() string { return *at }}
}

// answer is yes or no.
func answer(key, usual string, at *bool) field {
	return field{key, usual, func(value string) bool {
		*at = value == "yes"
		return *at || value == "no"
	}, func() string {
		if *at {
			return "yes"
		}
		return "no"
	}}
}

// many is any number of words, each of which is read and written by itself.
func many[T any](key string, at *[]T, read func(string) (T, bool), write func(T) string) field {
	return field{key, "", func(value string) bool {
		*at = nil
		for _, w := range words(value) {
			x, ok := read(w)
			if !ok {
				return false
			}
			*at = append(*at, x)
		}
		return true
	}, func() string {
		var l []string
		for _, x := range *at {
			l = append(l, write(x))
		}
		return strings.Join(l, " ")
	}}
}

// readSpec reads an archive.
func readSpec(s string) (api.Spec, bool) {
	step, points, _ := strings.Cut(s, ":")
	n, isStep := readWhole(step)
	p, isPoints := readWhole(points)
	return api.Spec{Step: n, Points: int(p)}, isStep && isPoints && int64(int(p)) == p
}

func writeSpec(s api.Spec) string {
	return writeWhole(s.Step) + ":" + writeWhole(int64(s.Points))
}

// method is the name of a way to roll up.
func method(key, usual string, at *api.Method) field {
	return field{key, usual, func(value string) bool {
		*at = methodOf(value)
		return *at != 0
	}, func() string {
		for _, name := range []string{"average", "sum", "last", "max", "min"} {
			if methodOf(name) == *at {
				return name
			}
		}
		return ""
	}}
}

func methodOf(name string) api.Method {
	switch name {
	case "average":
		return api.MAverage
	case "sum":
		return api.MSum
	case "last":
		return api.MLast
	case "max":
		return api.MMax
	case "min":
		return api.MMin
	}
	return 0
}

func gateFields(c *api.Config) []field {
	return []field{whole("width", "10", &c.Width), whole("late", "0", &c.Late), whole("ahead", "3600", &c.Ahead), whole("idle", "300", &c.Idle),
		count("sources", "1024", &c.Sources), count("series", "65536", &c.Series), count("gauges", "65536", &c.Gauges),
		count("shards", "4", &c.Shards), count("queue", "64", &c.Queue)}
}

func flushFields(f *api.Flush) []field {
	return []field{word("prefix", &f.Prefix), many("percents", &f.Percents, readSmall, micro.Print), many("bounds", &f.Bounds, readSmall, micro.Print)}
}

func ruleFields(r *api.Rule) []field {
	return []field{word("pattern", &r.Pattern), many("archives", &r.Specs, readSpec, writeSpec), method("method", "average", &r.Method), small("xff", "0.5", &r.Xff)}
}

func alarmFields(r *api.AlarmRule) []field {
	return []field{word("name", &r.Name), answer("above", "yes", &r.Above), decimal("warn", "0", &r.Warn), decimal("crit", "0", &r.Crit), decimal("slack", "0", &r.Slack),
		count("for", "1", &r.For), count("absent", "0", &r.Absent), whole("again", "0", &r.Again)}
}

func relayFields(c *api.RelayConfig) []field {
	text := func(s string) string { return s }
	return []field{many("nodes", &c.Nodes, func(s string) (string, bool) { return s, true }, text), count("copies", "1", &c.Copies), count("replicas", "1", &c.Replicas),
		count("held", "1", &c.Held), answer("newest", "no", &c.Newest)}
}
