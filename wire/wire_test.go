package wire_test

import (
	"bytes"
	"math/rand"
	"slices"
	"strings"
	"testing"

	"tumbler/api"
	"tumbler/wire"
)

func TestP5_1_Split(t *testing.T) {
	for d, want := range map[string][]string{
		"a:1|c\nb:2|c\n": {"a:1|c", "b:2|c"}, "\r\n\n a\r\nb": {" a", "b"}, "a\r\r\n": {"a\r"}, "": nil, "\n": nil, "\r": nil, "\r\r": {"\r"}, "a\r": {"a"}, "\ra": {"\ra"},
		"a\rb\n\xff\x00": {"a\rb", "\xff\x00"}, "a\n\nb": {"a", "b"},
	} {
		if got := wire.Split([]byte(d)); !slices.Equal(got, want) {
			t.Errorf("Split(%q) = %q; want %q", d, got, want)
		}
	}
	long := bytes.Repeat([]byte("ab\n"), 100000)
	kept := bytes.Clone(long)
	if got := wire.Split(long); len(got) != 100000 || !bytes.Equal(long, kept) {
		t.Error("a long one")
	}
}

func packer(t *testing.T, size int) *wire.Packer {
	t.Helper()
	p, err := wire.NewPacker(size)
	if err != api.OK {
		t.Fatalf("NewPacker(%d): %d", size, err)
	}
	return p
}

func TestP5_2_Sizes(t *testing.T) {
	for _, size := range []int{0, 65537, -1, 1<<63 - 1} {
		if p, err := wire.NewPacker(size); p != nil || err != api.ErrSize {
			t.Errorf("NewPacker(%d): %d", size, err)
		}
	}
	if p := packer(t, 65536); p.Held() != 0 || len(p.Flush()) != 0 {
		t.Error("a new one holds nothing")
	}
	packer(t, 1)
}

func add(t *testing.T, p *wire.Packer, line, out string, err api.Errno, held int) {
	t.Helper()
	if b, e := p.Add(line); string(b) != out || e != err || p.Held() != held {
		t.Errorf("Add(%q) = %q, %d, Held %d; want %q, %d, %d", line, b, e, p.Held(), out, err, held)
	}
}

func TestP5_3_4_Packer(t *testing.T) {
	p := packer(t, 10)
	add(t, p, "abc", "", 0, 3)
	add(t, p, "defghi", "", 0, 10)
	add(t, p, "", "", api.ErrBreak, 10)
	add(t, p, "j", "abc\ndefghi", 0, 1)
	if b := p.Flush(); string(b) != "j" || p.Held() != 0 || len(p.Flush()) != 0 {
		t.Errorf("Flush = %q", b)
	}
	p = packer(t, 3)
	add(t, p, "abcd", "", api.ErrLong, 0)
	add(t, p, "a\n", "", api.ErrBreak, 0)
	add(t, p, "a\r", "", api.ErrBreak, 0)
	add(t, p, "\na", "", api.ErrBreak, 0)
	add(t, p, "\n", "", api.ErrBreak, 0)
	add(t, p, "abcd\nef", "", api.ErrBreak, 0)
	add(t, p, "abcd\r", "", api.ErrBreak, 0)
	add(t, p, "\ra", "", 0, 2)
	add(t, p, "abc", "\ra", 0, 3)
	b, _ := p.Add("xyz")
	_ = append(b[:0], "zzz"...)
	if b := p.Flush(); string(b) != "xyz" {
		t.Errorf("what came out is shared: %q", b)
	}
}

func stream(t *testing.T, limit int) *wire.Stream {
	t.Helper()
	s, err := wire.NewStream(limit)
	if err != api.OK {
		t.Fatalf("NewStream(%d): %d", limit, err)
	}
	return s
}

func feed(t *testing.T, s *wire.Stream, piece string, want []string, lost int, end string) {
	t.Helper()
	if got := s.Feed([]byte(piece)); !slices.Equal(got, want) || s.Lost() != lost || s.End() != end || s.End() != end {
		t.Errorf("Feed(%q) = %q, Lost %d, End %q; want %q, %d, %q", piece, got, s.Lost(), s.End(), want, lost, end)
	}
}

func TestP5_5_6_Stream(t *testing.T) {
	for _, limit := range []int{0, 1025, -1} {
		if s, err := wire.NewStream(limit); s != nil || err != api.ErrSize {
			t.Errorf("NewStream(%d): %d", limit, err)
		}
	}
	stream(t, 1024)
	stream(t, 1)
	s := stream(t, 3)
	feed(t, s, "ab", nil, 0, "ab")
	feed(t, s, "c\r\nd\nefgh\ni", []string{"abc", "d"}, 1, "i")
	s = stream(t, 3)
	feed(t, s, "abcde", nil, 0, "abcd")
	feed(t, s, "f\r", nil, 0, "abcd")
	feed(t, s, "\n", nil, 1, "")
	feed(t, s, "\r\n\n", nil, 1, "")
	feed(t, s, "abc\r", nil, 1, "abc\r")
	feed(t, s, "\n", []string{"abc"}, 1, "")
	feed(t, s, "abc\r\r\n", nil, 2, "")
	feed(t, s, "ab\r\r\n", []string{"ab\r"}, 2, "")
	feed(t, s, "abcd\n", nil, 3, "")
	feed(t, s, "", nil, 3, "")
}

func TestP5_7_Pieces(t *testing.T) {
	r := rand.New(rand.NewSource(6))
	for range 2000 {
		b := make([]byte, r.Intn(30))
		for i := range b {
			b[i] = "ab\r\n"[r.Intn(4)]
		}
		whole, cut := stream(t, 3), stream(t, 3)
		want := whole.Feed(b)
		var got []string
		for rest := b; len(rest) > 0; {
			n := 1 + r.Intn(len(rest))
			got = append(got, cut.Feed(rest[:n])...)
			rest = rest[n:]
		}
		if !slices.Equal(got, want) || whole.End() != cut.End() || whole.Lost() != cut.Lost() {
			t.Fatalf("%q: %q and %q", b, want, got)
		}
		var split []string
		for _, line := range wire.Split(append(b, '\n')) {
			if len(line) <= 3 {
				split = append(split, line)
			}
		}
		if last := stream(t, 3); !slices.Equal(last.Feed(append(b, '\n')), split) {
			t.Fatalf("%q: Split %q", b, split)
		}
	}
}

func TestP5_8_ThereAndBack(t *testing.T) {
	r := rand.New(rand.NewSource(7))
	for range 500 {
		size := 5 + r.Intn(20)
		p := packer(t, size)
		var lines, back []string
		var datagrams [][]byte
		for range r.Intn(20) {
			line := strings.Repeat("x", 1+r.Intn(size))
			lines = append(lines, line)
			if b, _ := p.Add(line); len(b) != 0 {
				datagrams = append(datagrams, b)
			}
		}
		if b := p.Flush(); len(b) != 0 {
			datagrams = append(datagrams, b)
		}
		for i, b := range datagrams {
			split := wire.Split(b)
			back = append(back, split...)
			if len(b) > size || i > 0 && len(datagrams[i-1])+1+len(split[0]) <= size {
				t.Fatalf("datagrams %q of %d", datagrams, size)
			}
		}
		if !slices.Equal(lines, back) {
			t.Fatalf("%q came back as %q", lines, back)
		}
	}
}

func TestP1_NotMade(t *testing.T) {
	made := packer(t, 9)
	made.Add("x")
	for _, p := range []*wire.Packer{nil, {}} {
		if b, err := p.Add("a"); len(b) != 0 || err != api.ErrNil || len(p.Flush()) != 0 || p.Held() != 0 {
			t.Errorf("Add = %q, %d", b, err)
		}
	}
	for _, s := range []*wire.Stream{nil, {}} {
		if len(s.Feed([]byte("a\n"))) != 0 || s.End() != "" || s.Lost() != 0 {
			t.Error("a stream that was not made")
		}
	}
}
