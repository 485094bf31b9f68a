package name_test

import (
	"math/rand"
	"regexp"
	"strings"
	"testing"

	"tumbler/api"
	"tumbler/name"
)

var longest = strings.Repeat("a", 200)

func nodes(n int) string { return strings.TrimSuffix(strings.Repeat("a.", n), ".") }

func TestP3_1_Names(t *testing.T) {
	for _, s := range []string{"web.hits", "a-1._x", "a", "-", "_", "A.Z.0.9", longest, nodes(16)} {
		if !name.Valid(s) || strings.Join(name.Nodes(s), ".") != s {
			t.Errorf("%q is a name; Nodes %q", s, name.Nodes(s))
		}
	}
	for _, s := range []string{"", ".", "a.", ".a", "a..b", "a b", "ä", "a*", "a/b", "\xff", "a\x00", longest + "a", nodes(17), "a:b", "a@", "a[", "a`", "a{"} {
		if _, ok := name.Node(s, 0); name.Valid(s) || len(name.Nodes(s)) != 0 || ok {
			t.Errorf("%q is no name", s)
		}
	}
	for _, c := range []struct {
		i    int
		want string
		ok   bool
	}{{0, "a", true}, {2, "c", true}, {3, "", false}, {-1, "c", true}, {-3, "a", true}, {-4, "", false}, {-1 << 63, "", false}, {1<<63 - 1, "", false}} {
		if s, ok := name.Node("a.b.c", c.i); s != c.want || ok != c.ok {
			t.Errorf("Node(a.b.c, %d) = %q, %v", c.i, s, ok)
		}
	}
	l := name.Nodes("a.b")
	_ = append(l[:1], "x")
	if again := name.Nodes("a.b"); again[1] != "b" {
		t.Error("Nodes shares its memory")
	}
}

func TestP3_2_Clean(t *testing.T) {
	for s, want := range map[string]string{"web hits/total": "web_hits-total", "..a. .é.b": "a._.b", "a\t b": "a_b", "é/..": "-", "a é b": "a__b", "a \xff b": "a__b",
		"a\u00a0\u2028\u2029\u3000\ufeff\t\n\v\f\r b": "a_b", "a\ufffdb": "ab", "a\u0085b": "ab", "a\u200bb": "ab", "a//b": "a--b", "a...b": "a.b", ".a.": "a", "a.é.b": "a.b",
		"\xe3\x80a": "a", " ": "_", "a:|b": "ab", "Ünder": "nder", longest: longest, longest + "é.": longest, "a\x08b\x0eb": "abb"} {
		if got, ok := name.Clean(s); got != want || !ok {
			t.Errorf("Clean(%q) = %q, %v; want %q", s, got, ok, want)
		}
	}
	for _, r := range []rune{9, 10, 11, 12, 13, 32, 0xA0, 0x2028, 0x2029, 0x3000, 0xFEFF} {
		if got, ok := name.Clean("a" + string(r) + "b"); got != "a_b" || !ok {
			t.Errorf("Clean of %x = %q", r, got)
		}
		for _, no := range []rune{r - 1, r + 1} {
			if blank := strings.ContainsRune("\t\n\v\f\r \u00a0\u2028\u2029", no); !blank && no != '!' {
				if got, _ := name.Clean("a" + string(no) + "b"); got != "ab" {
					t.Errorf("Clean of %x = %q", no, got)
				}
			}
		}
	}
	for _, s := range []string{"", "ä..", "...", "é", "\xff", longest + "a", nodes(17), strings.Repeat("a.", 1000)} {
		if got, ok := name.Clean(s); got != "" || ok {
			t.Errorf("Clean(%q) = %q, %v", s, got, ok)
		}
	}
}

func compile(t *testing.T, s string) api.Pattern {
	t.Helper()
	p, place, err := name.Compile(s)
	if err != api.OK || place != 0 {
		t.Fatalf("Compile(%q): %d at %d", s, err, place)
	}
	return p
}

func TestP3_3_Compile(t *testing.T) {
	p := compile(t, "a*.[0-9x]?.{b,c,}")
	want := api.Pattern{Nodes: [][]api.Glob{
		{{Kind: api.GText, Text: "a"}, {Kind: api.GAny}},
		{{Kind: api.GClass, Text: "0123456789x"}, {Kind: api.GOne}},
		{{Kind: api.GAlts, Alts: []string{"b", "c", ""}}}}}
	if !equal(p, want) {
		t.Errorf("Compile = %v", p)
	}
	if p := compile(t, "[ba-c_A-A]**{}"); !equal(p, api.Pattern{Nodes: [][]api.Glob{
		{{Kind: api.GClass, Text: "A_abc"}, {Kind: api.GAny}, {Kind: api.GAny}, {Kind: api.GAlts, Alts: []string{""}}}}}) {
		t.Errorf("Compile = %v", p)
	}
	alts16 := "{" + strings.Repeat(",", 15) + "}"
	compile(t, alts16)
	compile(t, nodes(16))
	compile(t, strings.Repeat("a", 400))
	for _, c := range []struct {
		s     string
		place int
		err   api.Errno
	}{
		{"", 0, api.ErrPattern}, {"a..b", 2, api.ErrPattern}, {"a.", 2, api.ErrPattern}, {".", 0, api.ErrPattern}, {"[]", 1, api.ErrPattern}, {"[a-]", 3, api.ErrPattern},
		{"[a-Z]", 3, api.ErrPattern}, {"[c-a]", 3, api.ErrPattern}, {"[-a]", 1, api.ErrPattern}, {"{a", 2, api.ErrPattern}, {"a}", 1, api.ErrPattern}, {"{a*}", 2, api.ErrPattern},
		{"a b", 1, api.ErrPattern}, {"[a", 2, api.ErrPattern}, {"[a-", 3, api.ErrPattern}, {"[", 1, api.ErrPattern}, {"{", 1, api.ErrPattern}, {"[_-a]", 2, api.ErrPattern},
		{"[a-c-e]", 4, api.ErrPattern}, {"[a-_]", 3, api.ErrPattern}, {"[0-a]", 3, api.ErrPattern}, {"[a.]", 2, api.ErrPattern}, {"{a.b}", 2, api.ErrPattern}, {"a]", 1, api.ErrPattern},
		{"a,b", 1, api.ErrPattern}, {"é", 0, api.ErrPattern}, {"[é]", 1, api.ErrPattern}, {"a\x00", 1, api.ErrPattern}, {"[a\x00]", 2, api.ErrPattern}, {"{{}}", 1, api.ErrPattern},
		{nodes(17), 31, api.ErrMany}, {"{" + strings.Repeat(",", 16) + "}", 16, api.ErrMany}, {nodes(16) + ".", 31, api.ErrMany}, {"{" + strings.Repeat(",", 16) + " ", 16, api.ErrMany},
		{strings.Repeat("a", 401), 400, api.ErrLong}, {strings.Repeat(".", 401), 400, api.ErrLong},
	} {
		if p, place, err := name.Compile(c.s); place != c.place || err != c.err || len(p.Nodes) != 0 {
			t.Errorf("Compile(%q): %v, %d at %d; want %d at %d", c.s, p, err, place, c.err, c.place)
		}
	}
}

func glob(k api.GlobKind, text string, alts ...string) api.Glob {
	return api.Glob{Kind: k, Text: text, Alts: alts}
}

func one(l ...api.Glob) api.Pattern { return api.Pattern{Nodes: [][]api.Glob{l}} }

// wrong are patterns that may not be.
func wrong() []api.Pattern {
	long := make([]string, 17)
	return []api.Pattern{{}, {Nodes: [][]api.Glob{{}}}, {Nodes: make([][]api.Glob, 17)}, one(glob(0, "")), one(glob(6, "a")), one(glob(-1, "a")), one(glob(api.GText, "")),
		one(glob(api.GText, "a.b")), one(glob(api.GText, "a"), glob(api.GText, "b")), one(glob(api.GText, "a", "b")), one(glob(api.GAny, "a")), one(glob(api.GAny, "", "")),
		one(glob(api.GOne, "a")), one(glob(api.GClass, "")), one(glob(api.GClass, "ba")), one(glob(api.GClass, "aa")), one(glob(api.GClass, "-a")), one(glob(api.GClass, "a", "")),
		one(glob(api.GAlts, "")), one(glob(api.GAlts, "a", "a")), one(glob(api.GAlts, "", "*")), one(glob(api.GAlts, "", long...))}
}

func TestP3_4_Text(t *testing.T) {
	for s, want := range map[string]string{"a*.[0-9x]?.{b,c,}": "a*.[0-9x]?.{b,c,}", "[ba-c]": "[a-c]", "[cab]": "[a-c]", "[ab]": "[ab]", "[a-b]": "[ab]", "[Z_a]": "[Z_a]",
		"[a-zA-Z0-9_]": "[0-9A-Z_a-z]", "[acbxe]": "[a-cex]", "**": "**", "{}": "{}", "{b,a,b}": "{b,a,b}", "[9A]": "[9A]", "[XYZ_abc]": "[X-Z_a-c]"} {
		if got, err := name.Text(compile(t, s)); got != want || err != api.OK {
			t.Errorf("Text of %q = %q, %d; want %q", s, got, err, want)
		}
	}
	for _, s := range []string{nodes(16), "{" + strings.Repeat(",", 15) + "}", "a{b,c}d?"} {
		if got, err := name.Text(compile(t, s)); got != s || err != api.OK {
			t.Errorf("Text of %q = %q, %d", s, got, err)
		}
	}
	for _, p := range wrong() {
		if s, err := name.Text(p); s != "" || err != api.ErrPattern || name.Match(p, "a") {
			t.Errorf("Text(%v) = %q, %d", p, s, err)
		}
	}
	long := one(glob(api.GText, strings.Repeat("a", 401)))
	if s, err := name.Text(long); s != "" || err != api.ErrLong {
		t.Errorf("Text of a long one = %q, %d", s, err)
	}
	if s, err := name.Text(one(glob(api.GText, strings.Repeat("a", 400)))); len(s) != 400 || err != api.OK {
		t.Errorf("Text of a longest one = %q, %d", s, err)
	}
	r := rand.New(rand.NewSource(3))
	for range 20000 {
		s := randomText(r, "ab.*?[]{},-cA0_", 12)
		p, _, err := name.Compile(s)
		if err != api.OK {
			continue
		}
		back, err := name.Text(p)
		again, _, err2 := name.Compile(back)
		if err != api.OK || err2 != api.OK || len(back) > len(s) || !equal(p, again) {
			t.Fatalf("Text of %q = %q, %d", s, back, err)
		}
	}
}

func randomText(r *rand.Rand, bytes string, most int) string {
	b := make([]byte, r.Intn(most+1))
	for i := range b {
		b[i] = bytes[r.Intn(len(bytes))]
	}
	return string(b)
}

// expression is a regular expression for the names of a pattern.
func expression(p api.Pattern) *regexp.Regexp {
	s := "^"
	for i, node := range p.Nodes {
		if i > 0 {
			s += `\.`
		}
		for _, g := range node {
			switch g.Kind {
			case api.GText:
				s += g.Text
			case api.GAny:
				s += "[^.]*"
			case api.GOne:
				s += "[^.]"
			case api.GClass:
				s += "[" + g.Text + "]"
			case api.GAlts:
				s += "(" + strings.Join(g.Alts, "|") + ")"
			}
		}
	}
	return regexp.MustCompile(s + "$")
}

func TestP3_5_Match(t *testing.T) {
	for _, c := range []struct {
		p, s string
		want bool
	}{{"a*c", "ac", true}, {"a*c", "abbc", true}, {"a*c", "abcd", false}, {"a*c", "a.c", false}, {"*.x", "a.x", true}, {"*.x", "x", false}, {"{web,db}?", "web1", true}, {"{web,db}?", "web", false},
		{"{a,ab}{c,bc}", "abc", true}, {"*", "a b", false}, {"*", "", false}, {"[ab]", "c", false}, {"[ab]", "a", true}, {"[ab]", "b", true}, {"[ab]", "ab", false}, {"a[b]", "a", false}, {"x[0-9_]y", "x5y", true}, {"x[0-9_]y", "x_y", true}, {"x[0-9]y", "xay", false}, {"[ab]*", "bcd", true}, {"{,a}", "a", true}, {"{a}", "ab", false}, {"?", "ab", false}, {"a", "a", true}, {"a*", "a-_", true}} {
		if got := name.Match(compile(t, c.p), c.s); got != c.want {
			t.Errorf("Match(%q, %q) = %v", c.p, c.s, got)
		}
	}
	r := rand.New(rand.NewSource(4))
	for range 40000 {
		p, _, err := name.Compile(randomText(r, "aab.*?[]{},", 10))
		s := randomText(r, "aab.", 6)
		if err == api.OK && name.Valid(s) && name.Match(p, s) != expression(p).MatchString(s) {
			t.Fatalf("Match(%v, %q) = %v", p, s, name.Match(p, s))
		}
	}
	// Many ways lead through these: all of them are gone in a moment, and the pattern may be longer than a text.
	var l []api.Glob
	for range 2000 {
		l = append(l, glob(api.GAlts, "", "a", "aa", ""), glob(api.GAny, ""))
	}
	if name.Match(one(append(l, glob(api.GText, "b"))...), longest) || !name.Match(one(append(l, glob(api.GText, "a"))...), longest) {
		t.Error("a pattern of many ways")
	}
}

func TestP3_6_Plain(t *testing.T) {
	for s, want := range map[string]string{"a.b": "a.b", "a.*": "", "[a]": "", "{a}": "", "a?": "", strings.Repeat("a", 201): "", longest: longest} {
		if got, ok := name.Plain(compile(t, s)); got != want || ok != (want != "") {
			t.Errorf("Plain(%q) = %q, %v", s, got, ok)
		}
	}
	for _, p := range wrong() {
		if s, ok := name.Plain(p); s != "" || ok {
			t.Errorf("Plain(%v) = %q, %v", p, s, ok)
		}
	}
}
