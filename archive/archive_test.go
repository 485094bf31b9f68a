package archive_test

import (
	"bytes"
	"encoding/binary"
	"hash/fnv"
	"math"
	"math/big"
	"math/rand"
	"slices"
	"testing"

	"tumbler/api"
	"tumbler/archive"
	"tumbler/wide"
)

var two = []api.Spec{{Step: 10, Points: 6}, {Step: 60, Points: 5}}

func spec(l ...int64) []api.Spec {
	var out []api.Spec
	for i := 0; i < len(l); i += 2 {
		out = append(out, api.Spec{Step: l[i], Points: int(l[i+1])})
	}
	return out
}

func TestP19_1_Check(t *testing.T) {
	eight := spec(1, 2, 2, 2, 4, 2, 8, 2, 16, 2, 32, 2, 64, 2, 128, 2)
	for _, l := range [][]api.Spec{two, eight, spec(1, 1), spec(api.MaxStamp, 1), spec(1, 4096), spec(10, 6, 60, 2), spec(1, 4096, 4096, 2)} {
		if i, err := archive.Check(l); i != 0 || err != api.OK {
			t.Errorf("Check(%v) = %d, %d", l, i, err)
		}
	}
	for _, c := range []struct {
		l    []api.Spec
		want int
	}{{nil, 0}, {spec(10, 6, 60, 1), 1}, {spec(10, 5, 60, 5), 1}, {spec(10, 6, 25, 99), 1}, {spec(0, 1), 0}, {spec(-1, 1), 0}, {spec(1, 0), 0}, {spec(1, -1), 0}, {spec(1, 4097), 0}, {spec(api.MaxStamp+1, 1), 0}, {spec(api.MaxStamp, 2), 0},
		{spec(1<<29, 2048), 0}, {spec(math.MinInt64, 1), 0}, {spec(1, math.MinInt64), 0}, {spec(math.MaxInt64, math.MaxInt64), 0}, {spec(10, 6, 10, 7), 1}, {spec(10, 6, 5, 99), 1}, {spec(10, 6, 60, 5, 120, 2), 2}, {append(slices.Clip(eight), api.Spec{Step: 256, Points: 2}), 8},
		{append(slices.Clip(eight), eight...), 8}, {slices.Repeat(two, 5), 2}, {spec(10, 6, 20, 3), 1}, {spec(10, 6, 0, 5), 1}} {
		if i, err := archive.Check(c.l); i != c.want || err != api.ErrSpec {
			t.Errorf("Check(%v) = %d, %d; want %d", c.l, i, err, c.want)
		}
	}
}

func create(t *testing.T, l []api.Spec, m api.Method, xff int64) *archive.File {
	t.Helper()
	f, err := archive.Create(l, m, xff)
	if err != api.OK {
		t.Fatalf("Create: %d", err)
	}
	return f
}

func TestP19_2_Create(t *testing.T) {
	for _, c := range []struct {
		l    []api.Spec
		m    api.Method
		xff  int64
		want api.Errno
	}{{nil, 0, -1, api.ErrSpec}, {two, 0, -1, api.ErrMethod}, {two, 6, 0, api.ErrMethod}, {two, -1, 0, api.ErrMethod}, {two, 1, -1, api.ErrXff}, {two, 5, 1000001, api.ErrXff}} {
		if f, err := archive.Create(c.l, c.m, c.xff); f != nil || err != c.want {
			t.Errorf("Create(%v): %d", c, err)
		}
	}
	own := slices.Clone(two)
	f := create(t, own, api.MMax, 1000000)
	own[0].Step = 7
	f.Info().Specs[0].Step = 8
	if !equal(f.Info(), api.Info{Method: api.MMax, Xff: 1000000, Specs: two}) || len(f.Points(0)) != 0 || len(f.Points(2)) != 0 || len(f.Points(-1)) != 0 {
		t.Errorf("Info %v", f.Info())
	}
}

func update(t *testing.T, f *archive.File, at, v, now int64, want api.Errno) {
	t.Helper()
	if err := f.Update(api.Point{Time: at, Value: wide.Of(v)}, now); err != want {
		t.Errorf("Update(%d %d, %d) = %d; want %d", at, v, now, err, want)
	}
}

func points(t *testing.T, f *archive.File, i int, l ...int64) {
	t.Helper()
	var want []api.Point
	for j := 0; j < len(l); j += 2 {
		want = append(want, api.Point{Time: l[j], Value: wide.Of(l[j+1])})
	}
	if got := f.Points(i); !slices.Equal(got, want) {
		t.Errorf("Points(%d) = %v; want %v", i, got, want)
	}
}

func fetch(t *testing.T, f *archive.File, from, until, now int64, wantErr api.Errno, want api.Series) {
	t.Helper()
	if s, err := f.Fetch(from, until, now); err != wantErr || !equal(s, want) {
		t.Errorf("Fetch(%d, %d, %d) = %v, %d; want %v, %d", from, until, now, s, err, want, wantErr)
	}
}

func cell(v int64) api.Cell { return api.Cell{Is: true, Value: wide.Of(v)} }

func example(t *testing.T) *archive.File {
	f := create(t, two, api.MAverage, 500000)
	update(t, f, 125, 6, 130, 0)
	points(t, f, 0, 120, 6)
	points(t, f, 1)
	update(t, f, 131, 2, 135, 0)
	points(t, f, 1)
	update(t, f, 142, 1, 142, 0)
	points(t, f, 1, 120, 3)
	return f
}

func TestP19_3_4_Examples(t *testing.T) {
	f := example(t)
	fetch(t, f, 110, 140, 142, 0, api.Series{From: 120, Step: 10, Cells: []api.Cell{cell(6), cell(2), cell(1)}})
	fetch(t, f, 120, 121, 142, 0, api.Series{From: 130, Step: 10, Cells: []api.Cell{cell(2)}})
	fetch(t, f, 200, 210, 142, 0, api.Series{})
	fetch(t, f, 60, 130, 142, 0, api.Series{From: 120, Step: 60, Cells: []api.Cell{cell(3)}})
	fetch(t, f, 0, 142, 142, 0, api.Series{From: 60, Step: 60, Cells: []api.Cell{{}, cell(3)}})
	fetch(t, f, 0, 142, 420, 0, api.Series{From: 180, Step: 60, Cells: []api.Cell{{}}})
	fetch(t, f, 0, 119, 420, 0, api.Series{})
	fetch(t, f, 0, 120, 420, 0, api.Series{From: 180, Step: 60, Cells: []api.Cell{{}}})
	fetch(t, f, 142, 999, 142, 0, api.Series{From: 150, Step: 10, Cells: []api.Cell{{}}})
	for _, c := range [][4]int64{{-1, 1, 1, int64(api.ErrArg)}, {1, -1, 1, int64(api.ErrArg)}, {1, 1, -1, int64(api.ErrArg)}, {api.MaxStamp + 1, 1, 1, int64(api.ErrArg)}, {1, 1, api.MaxStamp + 1, int64(api.ErrArg)}, {2, 1, 0, int64(api.ErrSpan)}, {1, math.MinInt64, 0, int64(api.ErrArg)}} {
		fetch(t, f, c[0], c[1], c[2], api.Errno(c[3]), api.Series{})
	}
	update(t, f, 100, 9, 390, 0)
	points(t, f, 1, 60, 9, 120, 3)
	points(t, f, 0, 120, 6, 130, 2, 140, 1)
	f = create(t, two, api.MSum, 0)
	for _, at := range []int64{200, 300} {
		update(t, f, at, 1, 100, api.ErrOld)
	}
	update(t, f, 100, 1, 400, api.ErrOld)
	update(t, f, 101, 1, 400, 0)
	update(t, f, -1, 1, 400, api.ErrArg)
	update(t, f, 1, 1, -1, api.ErrArg)
	update(t, f, 1, 1, api.MaxStamp+1, api.ErrArg)
	update(t, f, api.MaxStamp+1, 1, api.MaxStamp, api.ErrArg)
	update(t, f, api.MaxStamp, 1, api.MaxStamp, 0)
	update(t, f, 0, 7, 0, 0)
	points(t, f, 1, 0, 7, api.MaxStamp-api.MaxStamp%60, 1) // which has the place of 60
}

func TestP19_3_RollingUpEnds(t *testing.T) {
	// All of two, and two of three, make one of the next archive.
	f := create(t, spec(1, 4, 2, 4, 6, 3), api.MMax, 600000)
	for at := range int64(4) {
		update(t, f, at, at, 3, 0)
	}
	points(t, f, 2, 0, 3)
	update(t, f, 0, 99, 9, 0)
	points(t, f, 2, 0, 99)
	update(t, f, 5, 1, 5, 0) // one of two: neither the second archive nor the third has a new point
	points(t, f, 1, 0, 1, 2, 3)
	points(t, f, 2, 0, 99)
	update(t, f, 4, 1, 5, 0)
	points(t, f, 1, 0, 1, 2, 3, 4, 1)
	points(t, f, 2, 0, 3)
	f = create(t, spec(1, 2, 2, 2, 4, 2, 8, 2, 16, 2, 32, 2, 64, 2, 128, 2), api.MMin, 0)
	update(t, f, 7, 7, 7, 0)
	if g, place, err := archive.Open(f.Bytes()); err != api.OK || place != 0 || !bytes.Equal(g.Bytes(), f.Bytes()) {
		t.Errorf("Open of eight archives: %d at %d", err, place)
	}
}

func TestP19_3_Values(t *testing.T) {
	most := api.Wide{Hi: 1 << 16}
	over, _ := wide.Add(most, wide.Of(1))
	least, _ := wide.Neg(most)
	under, _ := wide.Neg(over)
	f := create(t, two, api.MSum, 0)
	for _, v := range []api.Wide{over, under, {Hi: math.MinInt64}, {Hi: math.MaxInt64}} {
		if err := f.Update(api.Point{Time: 1, Value: v}, 1); err != api.ErrArg {
			t.Errorf("Update(%v): %d", v, err)
		}
	}
	for _, v := range []api.Wide{most, least} {
		for at := range int64(6) {
			if err := f.Update(api.Point{Time: 60 + at*10, Value: v}, 119); err != api.OK {
				t.Errorf("Update(%v): %d", v, err)
			}
		}
		six, _ := wide.Mul(v, wide.Of(6))
		if l := f.Points(1); len(l) != 1 || l[0].Value != six {
			t.Errorf("Points %v", l)
		}
		if g, place, err := archive.Open(f.Bytes()); err != api.OK || place != 0 || !bytes.Equal(g.Bytes(), f.Bytes()) {
			t.Errorf("Open: %d, %d", place, err)
		}
	}
}

// model is a file by its meaning: of each archive, by places, the intervals and values.
type model struct {
	specs  []api.Spec
	m      api.Method
	xff    int64
	places []map[int64][2]int64
}

func (x *model) known(i int, interval int64) (int64, bool) {
	s := x.specs[i]
	p, is := x.places[i][interval/s.Step%int64(s.Points)]
	return p[1], is && p[0] == interval
}

func (x *model) put(i int, t, v int64) {
	s := x.specs[i]
	x.places[i][t/s.Step%int64(s.Points)] = [2]int64{t - t%s.Step, v}
}

func (x *model) update(t, v, now int64) bool {
	last := x.specs[len(x.specs)-1]
	if t > now || now-t >= last.Step*int64(last.Points) {
		return false
	}
	i := 0
	for x.specs[i].Step*int64(x.specs[i].Points) < now-t {
		i++
	}
	x.put(i, t, v)
	for i++; i < len(x.specs); i++ {
		var l []int64
		begin := t - t%x.specs[i].Step
		n := int64(0)
		for at := begin; at < begin+x.specs[i].Step; at += x.specs[i-1].Step {
			n++
			if v, is := x.known(i-1, at); is {
				l = append(l, v)
			}
		}
		if len(l) == 0 || int64(len(l))*1000000 < x.xff*n {
			break
		}
		sum := int64(0)
		for _, v := range l {
			sum += v
		}
		x.put(i, t, map[api.Method]int64{api.MAverage: sum / int64(len(l)), api.MSum: sum, api.MLast: l[len(l)-1], api.MMax: slices.Max(l), api.MMin: slices.Min(l)}[x.m])
	}
	return true
}

func TestP9_And_P19_3_4_5_9_LikeTheModel(t *testing.T) {
	r := rand.New(rand.NewSource(23))
	layouts := [][]api.Spec{two, spec(1, 4), spec(1, 4, 2, 4, 6, 3), spec(5, 3, 15, 4, 30, 9)}
	for range 300 {
		x := &model{specs: layouts[r.Intn(4)], m: api.Method(1 + r.Intn(5)), xff: []int64{0, 1, 333333, 500000, 1000000}[r.Intn(5)]}
		f := create(t, x.specs, x.m, x.xff)
		for range x.specs {
			x.places = append(x.places, map[int64][2]int64{})
		}
		now := r.Int63n(500)
		for range 60 {
			now += r.Int63n(8)
			at, v := max(0, now+2-r.Int63n(1+r.Int63n(320))), r.Int63n(21)-10
			err := f.Update(api.Point{Time: at, Value: wide.Of(v)}, now)
			if x.update(at, v, now) != (err == api.OK) || err != api.OK && err != api.ErrOld {
				t.Fatalf("Update(%d, %d): %d", at, now, err)
			}
			for i, s := range x.specs {
				var want []api.Point
				for _, p := range x.places[i] {
					want = append(want, api.Point{Time: p[0], Value: wide.Of(p[1])})
				}
				slices.SortFunc(want, func(a, b api.Point) int { return int(a.Time - b.Time) })
				if got := f.Points(i); !slices.Equal(got, want) || len(got) > s.Points {
					t.Fatalf("Points(%d) = %v; want %v", i, got, want)
				}
			}
			from := max(0, now-r.Int63n(400))
			until := from + r.Int63n(100)
			s, err := f.Fetch(from, until, now)
			if err != api.OK || s.Name != "" {
				t.Fatalf("Fetch: %d", err)
			}
			i := slices.IndexFunc(x.specs, func(p api.Spec) bool { return p.Step == s.Step })
			for j, c := range s.Cells {
				v, is := x.known(i, s.From+int64(j)*s.Step)
				if c.Is != is || is && c.Value != wide.Of(v) || !is && c.Value != (api.Wide{}) {
					t.Fatalf("Fetch(%d, %d, %d) = %v", from, until, now, s)
				}
			}
		}
		g, place, err := archive.Open(f.Bytes())
		if err != api.OK || place != 0 || !bytes.Equal(g.Bytes(), f.Bytes()) || !equal(g.Info(), f.Info()) {
			t.Fatalf("Open: %d at %d", err, place)
		}
	}
}

func TestP19_6_Bytes(t *testing.T) {
	f := example(t)
	update(t, f, 60, -1, 359, 0)
	var b bytes.Buffer
	b.WriteString("RRA1\x01\x02")
	put := func(l ...any) {
		for _, x := range l {
			binary.Write(&b, binary.BigEndian, x)
		}
	}
	put(uint32(500000), int64(10), uint32(6), int64(60), uint32(5), uint32(3))
	put(int64(120), int64(0), int64(6), int64(130), int64(0), int64(2), int64(140), int64(0), int64(1))
	put(uint32(2), int64(60), int64(-1), int64(-1), int64(120), int64(0), int64(3))
	h := fnv.New32a()
	h.Write(b.Bytes())
	put(h.Sum32())
	if !bytes.Equal(f.Bytes(), b.Bytes()) {
		t.Errorf("Bytes\n%x; want\n%x", f.Bytes(), b.Bytes())
	}
	f.Bytes()[0] = 'x'
	if f.Bytes()[0] != 'R' {
		t.Error("Bytes are shared")
	}
}

// summed puts the sum behind bytes.
func summed(b []byte) []byte {
	h := fnv.New32a()
	h.Write(b)
	return h.Sum(slices.Clip(b))
}

func TestP19_7_Open(t *testing.T) {
	good := example(t).Bytes()
	body := good[:len(good)-4] // head 10, two archives of 12 each, 3 points at 34, 1 point at 110
	set := func(at int, l ...byte) []byte {
		b := slices.Clone(body)
		copy(b[at:], l)
		return summed(b)
	}
	number := func(at int, n int64) []byte { return set(at, binary.BigEndian.AppendUint64(nil, uint64(n))...) }
	big, _ := wide.Mul(api.Wide{Hi: 1 << 16}, wide.Of(10))
	over := binary.BigEndian.AppendUint64(binary.BigEndian.AppendUint64(nil, uint64(big.Hi)), big.Lo+1)
	for i, c := range []struct {
		b     []byte
		place int
		err   api.Errno
	}{
		{nil, 0, api.ErrFile}, {good[:13], 0, api.ErrFile}, {[]byte("RRA2          "), 0, api.ErrFile}, {summed([]byte("xRA1aaaaaaaaaaaaaaaa")), 0, api.ErrFile}, {append(slices.Clone(good), 0), len(good) - 3, api.ErrSum}, {[]byte("RRA1          "), 10, api.ErrSum},
		{set(4, 0), 4, api.ErrFile}, {set(4, 6), 4, api.ErrFile}, {set(5, 0), 5, api.ErrFile}, {set(5, 9), 5, api.ErrFile}, {set(4, 0, 0), 4, api.ErrFile}, {set(6, 0, 15, 66, 65), 6, api.ErrFile}, {set(5, 0, 255), 5, api.ErrFile},
		{summed(body[:21]), 10, api.ErrFile}, {summed(body[:33]), 22, api.ErrFile}, {number(10, 0), 10, api.ErrFile}, {number(10, -1), 10, api.ErrFile}, {number(22, 61), 22, api.ErrFile}, {set(18, 0, 0, 0, 5), 22, api.ErrFile}, {set(18, 255, 255, 255, 255), 10, api.ErrFile},
		{set(5, 3), 34, api.ErrFile}, {summed(body[:37]), 34, api.ErrFile}, {set(34, 0, 0, 0, 7), 34, api.ErrFile}, {set(34, 255, 0, 0, 0), 34, api.ErrFile}, {summed(body[:61]), 38, api.ErrFile}, {number(38, 121), 38, api.ErrFile}, {number(38, -10), 38, api.ErrFile}, {number(38, 1<<40), 38, api.ErrFile},
		{number(38, math.MinInt64), 38, api.ErrFile}, {number(62, 120), 62, api.ErrFile}, {number(62, 110), 62, api.ErrFile}, {number(86, 180), 86, api.ErrFile}, {set(46, over...), 38, api.ErrFile}, {set(46, 128), 38, api.ErrFile}, {set(110, 0, 0, 0, 0), 114, api.ErrFile},
		{summed(append(slices.Clone(body), 0)), len(body), api.ErrFile}, {set(110, 0, 0, 0, 2), 138, api.ErrFile}, {set(34, 0, 0, 0, 2), 90, api.ErrFile}, {summed(body[:110]), 110, api.ErrFile},
	} {
		if f, place, err := archive.Open(c.b); f != nil || place != c.place || err != c.err {
			t.Errorf("%d: Open = %d at %d; want %d at %d", i, err, place, c.err, c.place)
		}
	}
	over[15]--
	if f, _, err := archive.Open(set(46, over...)); err != api.OK || f.Points(0)[0].Value != big {
		t.Errorf("the greatest value that fits: %d", err)
	}
	kept := slices.Clone(good)
	f, _, _ := archive.Open(kept)
	kept[40] = 9
	if !bytes.Equal(f.Bytes(), good) {
		t.Error("what was handed in is kept")
	}
}

func TestP19_8_Told(t *testing.T) {
	good := example(t).Bytes()
	for i := range good {
		for _, x := range []byte{1, 0x80, 0xff} {
			b := slices.Clone(good)
			b[i] ^= x
			if f, _, err := archive.Open(b); f != nil || err == api.OK {
				t.Fatalf("byte %d changed", i)
			}
		}
	}
}

func TestP1_NotMade(t *testing.T) {
	for _, f := range []*archive.File{nil, {}} {
		update(t, f, -1, 1, 1, api.ErrNil)
		fetch(t, f, -1, 1, 1, api.ErrNil, api.Series{})
		if !equal(f.Info(), api.Info{}) || len(f.Points(0)) != 0 || len(f.Bytes()) != 0 {
			t.Error("a file that was not made")
		}
	}
}

func TestAverageIsCut(t *testing.T) {
	f := create(t, spec(1, 2, 2, 2), api.MAverage, 0)
	update(t, f, 0, -2, 1, 0)
	update(t, f, 1, -1, 1, 0)
	points(t, f, 1, 0, new(big.Int).Quo(big.NewInt(-3), big.NewInt(2)).Int64())
}
