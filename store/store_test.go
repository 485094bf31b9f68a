package store_test

import (
	"bytes"
	"encoding/binary"
	"hash/fnv"
	"math"
	"math/rand"
	"slices"
	"strings"
	"testing"

	"tumbler/api"
	"tumbler/archive"
	"tumbler/name"
	"tumbler/store"
	"tumbler/wide"
)

func rules() []api.Rule {
	return []api.Rule{{Pattern: "a.*", Specs: []api.Spec{{Step: 10, Points: 6}}, Method: api.MAverage, Xff: 500000}, {Pattern: "*", Specs: []api.Spec{{Step: 60, Points: 5}}, Method: api.MSum}}
}

func made(t *testing.T, limit int) *store.Store {
	t.Helper()
	s, i, err := store.New(rules(), limit)
	if err != api.OK || i != 0 || len(s.Names()) != 0 {
		t.Fatalf("New: %d, %d", i, err)
	}
	return s
}

func write(t *testing.T, s *store.Store, path string, v, at, now int64, want api.Errno) {
	t.Helper()
	if err := s.Write(api.Record{Path: path, Value: wide.Of(v), Time: at}, now); err != want {
		t.Errorf("Write(%q %d at %d, now %d) = %d; want %d", path, v, at, now, err, want)
	}
}

func compile(s string) api.Pattern {
	p, _, err := name.Compile(s)
	if err != api.OK {
		panic(s)
	}
	return p
}

func found(t *testing.T, s *store.Store, p string, want ...string) {
	t.Helper()
	var got []string
	for _, f := range s.Find(compile(p)) {
		if f.Leaf {
			got = append(got, "leaf "+f.Name)
		} else {
			got = append(got, "branch "+f.Name)
		}
	}
	if !slices.Equal(got, want) {
		t.Errorf("Find(%q) = %q; want %q", p, got, want)
	}
}

func names(t *testing.T, s *store.Store, want ...string) {
	t.Helper()
	if got := s.Names(); !slices.Equal(got, want) {
		t.Errorf("Names = %q; want %q", got, want)
	}
}

func TestP20_1_New(t *testing.T) {
	good, bad := rules()[0], api.Rule{Pattern: ".."}
	with := func(change func(*api.Rule)) []api.Rule {
		l := rules()
		change(&l[1])
		return l
	}
	for _, c := range []struct {
		l     []api.Rule
		limit int
		place int
		want  api.Errno
	}{{rules(), 0, 0, api.ErrArg}, {[]api.Rule{bad}, 65537, 0, api.ErrArg}, {[]api.Rule{bad}, -1, 0, api.ErrArg}, {slices.Repeat([]api.Rule{bad}, 65), 1, 64, api.ErrMany}, {slices.Repeat([]api.Rule{bad}, 64), 1, 0, api.ErrRule},
		{with(func(r *api.Rule) { r.Pattern = ".." }), 1, 1, api.ErrRule}, {with(func(r *api.Rule) { r.Specs = nil }), 1, 1, api.ErrRule}, {with(func(r *api.Rule) { r.Method = 0 }), 1, 1, api.ErrRule}, {with(func(r *api.Rule) { r.Xff = -1 }), 1, 1, api.ErrRule},
		{with(func(r *api.Rule) { r.Pattern = strings.Repeat("a", 401) }), 1, 1, api.ErrRule}} {
		if s, i, err := store.New(c.l, c.limit); s != nil || i != c.place || err != c.want {
			t.Errorf("New(%v, %d): %d, %d; want %d, %d", c.l, c.limit, i, err, c.place, c.want)
		}
	}
	for _, l := range [][]api.Rule{nil, slices.Repeat([]api.Rule{good}, 64)} {
		if _, _, err := store.New(l, api.MaxSeries); err != api.OK {
			t.Errorf("New of %d: %d", len(l), err)
		}
	}
	own := rules()
	s, _, _ := store.New(own, 9)
	own[0].Specs[0].Step = 7
	write(t, s, "a.x", 1, 125, 125, 0)
	if l, _ := s.Fetch(compile("a.x"), 119, 125, 125); l[0].Step != 10 {
		t.Error("the rules are kept as they were handed in")
	}
}

func TestP20_2_to_5_Examples(t *testing.T) {
	s := made(t, 2)
	write(t, s, "a.x", 1, 120, 125, 0)
	write(t, s, "b", 2, 120, 125, 0)
	write(t, s, "c", 1, 120, 125, api.ErrMany)
	write(t, s, "x.y", 1, 120, 125, api.ErrRule)
	write(t, s, "a..x", 1, 120, 125, api.ErrName)
	found(t, s, "*", "branch a", "leaf b")
	found(t, s, "a.*", "leaf a.x")
	found(t, s, "a", "branch a")
	l, err := s.Fetch(compile("{a,b}*"), 120, 125, 125)
	if err != api.OK || !equal(l, []api.Series{{Name: "b", From: 180, Step: 60, Cells: []api.Cell{{}}}}) {
		t.Errorf("Fetch = %v, %d", l, err)
	}
	l, err = s.Fetch(compile("a.*"), 115, 125, 125)
	if err != api.OK || !equal(l, []api.Series{{Name: "a.x", From: 120, Step: 10, Cells: []api.Cell{{Is: true, Value: wide.Of(1)}}}}) {
		t.Errorf("Fetch = %v, %d", l, err)
	}
	if l, err = s.Fetch(compile("b"), 500, 501, 125); err != api.OK || len(l) != 0 {
		t.Errorf("Fetch of a zero series = %v, %d", l, err)
	}
	if s.Delete("b") != api.OK || s.Delete("b") != api.ErrGone || s.Delete("a") != api.ErrGone {
		t.Error("Delete")
	}
	names(t, s, "a.x")
}

func TestP20_2_11_Refused(t *testing.T) {
	s := made(t, 1)
	write(t, s, "b", 1, 126, 125, api.ErrOld)
	write(t, s, "b", 1, -1, 125, api.ErrArg)
	names(t, s)
	write(t, s, "b", 1, 125, 125, 0)
	before := s.Dump()
	write(t, s, "b", 1, 126, 125, api.ErrOld)
	write(t, s, "b", 1, 1, 500, api.ErrOld)
	write(t, s, "", 1, 1, -1, api.ErrName)
	write(t, s, "x.y", 1, 1, -1, api.ErrRule)
	write(t, s, "c", 1, 1, -1, api.ErrMany)
	write(t, s, "b", 1, 1, -1, api.ErrArg)
	if !bytes.Equal(s.Dump(), before) {
		t.Error("what was refused has changed something")
	}
	write(t, s, "b", 2, 125, 125, 0) // there is room for one that is there
	for _, c := range [][4]int64{{-1, 1, 1, int64(api.ErrArg)}, {2, 1, -1, int64(api.ErrArg)}, {2, math.MaxInt64, 1, int64(api.ErrArg)}, {2, 1, 1, int64(api.ErrSpan)}} {
		if l, err := s.Fetch(api.Pattern{}, c[0], c[1], c[2]); len(l) != 0 || err != api.Errno(c[3]) {
			t.Errorf("Fetch%v: %d", c, err)
		}
	}
	write(t, s, "b", 3, 0, 0, 0)
	if l, err := s.Fetch(compile("b"), 0, 0, 0); len(l) != 1 || err != api.OK {
		t.Errorf("Fetch from 0 to 0: %v, %d", l, err)
	}
	if l, err := s.Fetch(compile("b"), api.MaxStamp, api.MaxStamp, api.MaxStamp); len(l) != 1 || err != api.OK {
		t.Errorf("Fetch at the last second: %v, %d", l, err)
	}
	if l, err := s.Fetch(api.Pattern{}, 1, 2, 2); len(l) != 0 || err != api.OK || len(s.Find(api.Pattern{})) != 0 {
		t.Errorf("of a pattern that may not be: %v, %d", l, err)
	}
}

func TestP20_3_8_Tree(t *testing.T) {
	l := rules()
	l[0].Pattern = "{a,b}*.*.*"
	l = append(l, l[0])
	l[2].Pattern = "*.*"
	s, _, _ := store.New(l, 99)
	for _, n := range []string{"a.b.c", "a.b", "a", "a-b.c", "b.x.y", "b.x.z", "c"} {
		write(t, s, n, 1, 5, 5, 0)
	}
	found(t, s, "*", "branch a", "leaf a", "branch a-b", "branch b", "leaf c")
	found(t, s, "*.*", "leaf a-b.c", "branch a.b", "leaf a.b", "branch b.x")
	found(t, s, "*.*.*", "leaf a.b.c", "leaf b.x.y", "leaf b.x.z")
	found(t, s, "*.*.*.*")
	var leaves []string
	for _, p := range []string{"*", "*.*", "*.*.*"} {
		for _, f := range s.Find(compile(p)) {
			if f.Leaf {
				leaves = append(leaves, f.Name)
			} else if below := s.Find(compile(p + ".*")); !slices.ContainsFunc(below, func(x api.Found) bool { return strings.HasPrefix(x.Name, f.Name+".") }) {
				t.Errorf("nothing below the branch %q", f.Name)
			}
		}
	}
	names(t, s, slices.Sorted(slices.Values(leaves))...)
}

func TestP20_9_10_ApartAndBack(t *testing.T) {
	r := rand.New(rand.NewSource(24))
	all := []string{"a.x", "a.y", "b", "c"}
	for range 100 {
		s := made(t, 4)
		alone := map[string]*store.Store{}
		now := int64(100)
		for range 40 {
			n := all[r.Intn(4)]
			if alone[n] == nil {
				alone[n] = made(t, 1)
			}
			now += r.Int63n(9)
			x := api.Record{Path: n, Value: wide.Of(r.Int63n(99)), Time: max(0, now-r.Int63n(400))}
			if s.Write(x, now) != alone[n].Write(x, now) {
				t.Fatal("a write hangs on others")
			}
		}
		back, place, err := store.Load(rules(), 4, s.Dump())
		if err != api.OK || place != 0 || !bytes.Equal(back.Dump(), s.Dump()) || !slices.Equal(back.Names(), s.Names()) {
			t.Fatalf("Load: %d at %d", err, place)
		}
		for n, x := range alone {
			want, _ := x.Fetch(compile(n), now-100, now, now)
			for _, y := range []*store.Store{s, back} {
				if got, err := y.Fetch(compile(n), now-100, now, now); err != api.OK || !equal(got, want) {
					t.Fatalf("Fetch(%q) = %v; want %v", n, got, want)
				}
			}
		}
		write(t, back, "d", 1, now, now, map[bool]api.Errno{true: api.ErrMany, false: 0}[len(s.Names()) == 4])
	}
}

// summed puts the sum behind bytes.
func summed(b []byte) []byte {
	h := fnv.New32a()
	h.Write(b)
	return h.Sum(slices.Clip(b))
}

// part is bytes with their number ahead.
func part(n string, file []byte) []byte {
	b := append([]byte{byte(len(n))}, n...)
	return append(binary.BigEndian.AppendUint32(b, uint32(len(file))), file...)
}

func TestP20_6_7_DumpAndLoad(t *testing.T) {
	f, _ := archive.Create(rules()[1].Specs, api.MSum, 0)
	f.Update(api.Point{Time: 120, Value: wide.Of(2)}, 125)
	s := made(t, 3)
	write(t, s, "b", 2, 120, 125, 0)
	write(t, s, "c", 2, 120, 125, 0)
	head := func(n byte) []byte { return []byte{'T', 'S', 'T', '1', 0, 0, 0, n} }
	body := append(append(head(2), part("b", f.Bytes())...), part("c", f.Bytes())...)
	good := summed(body)
	if !bytes.Equal(s.Dump(), good) {
		t.Errorf("Dump\n%x; want\n%x", s.Dump(), good)
	}
	if b := made(t, 1).Dump(); !bytes.Equal(b, summed(head(0))) {
		t.Errorf("Dump of none: %x", b)
	}
	one := len(part("b", f.Bytes()))
	join := func(n byte, l ...[]byte) []byte { return summed(append(head(n), slices.Concat(l...)...)) }
	bad := slices.Clone(f.Bytes())
	bad[20]++
	for i, c := range []struct {
		b     []byte
		place int
		err   api.Errno
	}{
		{nil, 0, api.ErrDump}, {good[:11], 0, api.ErrDump}, {[]byte("TST2aaaaaaaaaaa"), 0, api.ErrDump}, {append(slices.Clone(good), 1), len(good) - 3, api.ErrSum}, {[]byte("TST1aaaaaaaa"), 8, api.ErrSum}, {join(4), 4, api.ErrMany}, {summed([]byte("TST1\xff\xff\xff\xff")), 4, api.ErrMany},
		{join(1), 8, api.ErrDump}, {summed(body[:len(body)-1]), 8 + one, api.ErrDump}, {summed(body[:8+one+1]), 8 + one, api.ErrDump}, {summed(body[:8+one+4]), 8 + one, api.ErrDump}, {summed(body[:8+one]), 8 + one, api.ErrDump}, {join(1, part("", f.Bytes())), 8, api.ErrDump},
		{join(1, part("a b", f.Bytes())), 8, api.ErrDump}, {join(2, part("c", f.Bytes()), part("b", f.Bytes())), 8 + one, api.ErrDump}, {join(2, part("c", f.Bytes()), part("c", f.Bytes())), 8 + one, api.ErrDump}, {join(1, part("c", bad)), 8, api.ErrDump}, {join(1, part("c", nil)), 8, api.ErrDump},
		{join(1, part("b", f.Bytes()), []byte{0}), 8 + one, api.ErrDump}, {join(0, []byte{0}), 8, api.ErrDump}, {summed(append(head(1), 1, 'b', 255, 255, 255, 255)), 8, api.ErrDump},
	} {
		if s, place, err := store.Load(rules(), 3, c.b); s != nil || place != c.place || err != c.err {
			t.Errorf("%d: Load = %d at %d; want %d at %d", i, err, place, c.err, c.place)
		}
	}
	if s, place, err := store.Load(nil, 0, nil); s != nil || place != 0 || err != api.ErrArg {
		t.Errorf("Load: %d at %d", err, place)
	}
	if s, place, err := store.Load(append(rules(), api.Rule{}), 1, nil); s != nil || place != 2 || err != api.ErrRule {
		t.Errorf("Load: %d at %d", err, place)
	}
	if back, _, err := store.Load(nil, 2, good); err != api.OK || !bytes.Equal(back.Dump(), good) {
		t.Errorf("Load without rules: %d", err)
	}
	if _, place, err := store.Load(nil, 1, good); place != 4 || err != api.ErrMany {
		t.Errorf("Load into too little: %d at %d", err, place)
	}
}

func TestP1_NotMade(t *testing.T) {
	for _, s := range []*store.Store{nil, {}} {
		l, err := s.Fetch(api.Pattern{}, -1, 0, 0)
		write(t, s, "", 0, 0, 0, api.ErrNil)
		if len(l) != 0 || err != api.ErrNil || s.Delete("a") != api.ErrNil || len(s.Find(compile("*"))) != 0 || len(s.Names()) != 0 || len(s.Dump()) != 0 {
			t.Error("a store that was not made")
		}
	}
}
