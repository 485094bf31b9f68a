package micro_test

import (
	"math/big"
	"math/rand"
	"strings"
	"testing"

	"tumbler/api"
	"tumbler/micro"
	"tumbler/wide"
)

const (
	least    = -1 << 63
	greatest = 1<<63 - 1
)

func values() []int64 {
	l := []int64{0, 1, -1, 5, -5, 999999, 1000000, 1000001, -1500000, 1450000, -1450000, 1499999, 1500000, 500000, -500000, 499999, 7000000,
		api.MaxValue, -api.MaxValue, api.MaxValue + 1, -api.MaxValue - 1, api.MaxTimer, greatest, least, greatest - 1, least + 1, greatest - 499999, 1 << 40}
	r := rand.New(rand.NewSource(2))
	for range 100 {
		l = append(l, int64(r.Uint64())>>r.Intn(64))
	}
	return l
}

func usual(v int64) bool { return v >= -api.MaxValue && v <= api.MaxValue }

func big3(a, b, c int64) *big.Int {
	p := new(big.Int).Mul(big.NewInt(a), big.NewInt(b))
	return p.Quo(p, big.NewInt(c))
}

func TestP2_1_Parse(t *testing.T) {
	for _, c := range []struct {
		s    string
		want int64
		err  api.Errno
	}{
		{"1.5", 1500000, 0}, {"-0.000001", -1, 0}, {"007", 7000000, 0}, {"-0", 0, 0}, {"007.50", 7500000, 0}, {"0.000000", 0, 0},
		{"1000000000", api.MaxValue, 0}, {"-1000000000.000000", -api.MaxValue, 0}, {"0001000000000", api.MaxValue, 0},
		{"1000000000.000001", 0, api.ErrRange}, {"-1000000000.000001", 0, api.ErrRange}, {strings.Repeat("9", 300), 0, api.ErrRange},
		{"18446744073709551616", 0, api.ErrRange}, {"1.0000000", 0, api.ErrFine}, {"99999999999999999999999.0000000", 0, api.ErrFine},
		{"1.", 0, api.ErrDecimal}, {".5", 0, api.ErrDecimal}, {"5.", 0, api.ErrDecimal}, {"+1", 0, api.ErrDecimal}, {"1e3", 0, api.ErrDecimal},
		{"", 0, api.ErrDecimal}, {"-", 0, api.ErrDecimal}, {"--1", 0, api.ErrDecimal}, {"1.2.3", 0, api.ErrDecimal}, {" 1", 0, api.ErrDecimal},
		{"1.0000000x", 0, api.ErrDecimal}, {"1,5", 0, api.ErrDecimal}, {"\xff", 0, api.ErrDecimal}, {"1.-5", 0, api.ErrDecimal}, {"٣", 0, api.ErrDecimal},
	} {
		if v, err := micro.Parse(c.s); v != c.want || err != c.err {
			t.Errorf("Parse(%q) = %d, %d; want %d, %d", c.s, v, err, c.want, c.err)
		}
	}
}

func TestP2_2_Print(t *testing.T) {
	for v, want := range map[int64]string{1500000: "1.5", -1: "-0.000001", 0: "0", least: "-9223372036854.775808", greatest: "9223372036854.775807",
		10: "0.00001", 1000000: "1", -1000000: "-1", 100000: "0.1", 123456: "0.123456", 10000000: "10"} {
		if s := micro.Print(v); s != want {
			t.Errorf("Print(%d) = %q; want %q", v, s, want)
		}
	}
}

func TestP2_3_ReadAndShow(t *testing.T) {
	if s := micro.Show(api.Wide{Hi: -1, Lo: 18446744073709551615}); s != "-0.000001" {
		t.Errorf("Show(-1) = %q", s)
	}
	low, high := api.Wide{Hi: least}, api.Wide{Hi: greatest, Lo: 1<<64 - 1}
	if s := micro.Show(low); s != "-170141183460469231731687303715884.105728" {
		t.Errorf("Show of the least = %q", s)
	}
	for _, c := range []struct {
		s    string
		want api.Wide
		err  api.Errno
	}{
		{"0.000001", api.Wide{Lo: 1}, 0}, {"-0", api.Wide{}, 0}, {"1", api.Wide{Lo: 1000000}, 0}, {"0001.5", api.Wide{Lo: 1500000}, 0},
		{"1000000000.000001", api.Wide{Lo: api.MaxValue + 1}, 0},
		{"170141183460469231731687303715884.105727", high, 0}, {"170141183460469231731687303715884.105728", api.Wide{}, api.ErrOver},
		{"-170141183460469231731687303715884.105728", low, 0}, {"-170141183460469231731687303715884.105729", api.Wide{}, api.ErrOver},
		{"1.0000000", api.Wide{}, api.ErrFine}, {strings.Repeat("9", 99) + ".0000000", api.Wide{}, api.ErrFine}, {strings.Repeat("9", 99), api.Wide{}, api.ErrOver},
		{"x", api.Wide{}, api.ErrDecimal}, {"", api.Wide{}, api.ErrDecimal}, {"1.", api.Wide{}, api.ErrDecimal},
	} {
		if w, err := micro.Read(c.s); w != c.want || err != c.err {
			t.Errorf("Read(%q) = %v, %d; want %v, %d", c.s, w, err, c.want, c.err)
		}
	}
}

func TestP2_4_Scale(t *testing.T) {
	for _, c := range []struct {
		v, rate, want int64
		err           api.Errno
	}{
		{3000000, 100000, 30000000, 0}, {1, 300000, 3, 0}, {-1, 300000, -3, 0}, {5, 999, 0, api.ErrRate}, {5, 1000001, 0, api.ErrRate}, {5, -1000, 0, api.ErrRate},
		{api.MaxValue + 1, api.Unit, 0, api.ErrRange}, {least, api.Unit, 0, api.ErrRange}, {greatest, 0, 0, api.ErrRate},
		{api.MaxValue, 1000, 1000000000000000000, 0}, {-api.MaxValue, 1000, -1000000000000000000, 0},
	} {
		if v, err := micro.Scale(c.v, c.rate); v != c.want || err != c.err {
			t.Errorf("Scale(%d, %d) = %d, %d; want %d, %d", c.v, c.rate, v, err, c.want, c.err)
		}
	}
}

func TestP2_5_And_P2_11_Share(t *testing.T) {
	for _, n := range []int64{0, -1, least} {
		if w, err := micro.Share(wide.Of(7), n); err != api.ErrArg || w != (api.Wide{}) {
			t.Errorf("Share(7, %d) = %v, %d", n, w, err)
		}
	}
	if w, err := micro.Share(wide.Of(-7), 2); err != api.OK || w != wide.Of(-3) {
		t.Errorf("Share(-7, 2) = %v, %d", w, err)
	}
	for _, v := range values() {
		for _, n := range []int64{1, 2, 3, 10, 1048576, greatest} {
			w := api.Wide{Hi: v, Lo: uint64(v) * 31}
			q, err := micro.Share(w, n)
			wantQ, wantR, _ := wide.Quo(w, wide.Of(n))
			back, _ := wide.Mul(q, wide.Of(n))
			rest, _ := wide.Sub(w, back)
			if err != api.OK || q != wantQ || rest != wantR {
				t.Errorf("Share(%v, %d) = %v, %d", w, n, q, err)
			}
		}
	}
}

func TestP2_6_And_P2_12_Round(t *testing.T) {
	for _, c := range []struct {
		v      int64
		digits int
		want   int64
		err    api.Errno
	}{
		{1450000, 1, 1500000, 0}, {-1450000, 1, -1500000, 0}, {1499999, 0, 1000000, 0}, {5, 7, 0, api.ErrArg}, {5, -1, 0, api.ErrArg},
		{1500000, 0, 2000000, 0}, {-1500000, 0, -2000000, 0}, {greatest, 0, 0, api.ErrOver}, {least, 0, 0, api.ErrOver}, {greatest, 6, greatest, 0}, {least, 6, least, 0},
		{greatest, 5, 0, api.ErrOver}, {least, 5, 0, api.ErrOver}, {least, 4, -9223372036854775800, 0}, {9223372036854000000 + 499999, 0, 9223372036854000000, 0},
	} {
		if v, err := micro.Round(c.v, c.digits); v != c.want || err != c.err {
			t.Errorf("Round(%d, %d) = %d, %d; want %d, %d", c.v, c.digits, v, err, c.want, c.err)
		}
	}
	for _, v := range values() {
		step := int64(1)
		for digits := 6; digits >= 0; digits-- {
			got, err := micro.Round(v, digits)
			if d := new(big.Int).Sub(big.NewInt(got), big.NewInt(v)); err == api.OK && (got%step != 0 || d.Abs(d).Cmp(big.NewInt(step/2)) > 0) {
				t.Errorf("Round(%d, %d) = %d", v, digits, got)
			}
			step *= 10
		}
	}
}

func TestP2_7_ProductAndRatio(t *testing.T) {
	if v, err := micro.Product(1500000, 2000000); v != 3000000 || err != api.OK {
		t.Errorf("Product = %d, %d", v, err)
	}
	if v, err := micro.Ratio(1000000, 3000000); v != 333333 || err != api.OK {
		t.Errorf("Ratio = %d, %d", v, err)
	}
	check := func(what string, got int64, err api.Errno, want *big.Int) {
		t.Helper()
		if want.IsInt64() && (err != api.OK || got != want.Int64()) || !want.IsInt64() && (err != api.ErrOver || got != 0) {
			t.Errorf("%s = %d, %d; want %v", what, got, err, want)
		}
	}
	for _, a := range values() {
		for _, b := range values() {
			v, err := micro.Product(a, b)
			check("Product", v, err, big3(a, b, api.Unit))
			v, err = micro.Ratio(a, b)
			if b == 0 {
				if v != 0 || err != api.ErrZero {
					t.Errorf("Ratio(%d, 0) = %d, %d", a, v, err)
				}
				continue
			}
			check("Ratio", v, err, big3(a, api.Unit, b))
		}
	}
}

func TestP2_8_Fits(t *testing.T) {
	for _, c := range []struct {
		w    api.Wide
		want int64
		ok   bool
	}{{api.Wide{Lo: greatest}, greatest, true}, {api.Wide{Lo: 1 << 63}, 0, false}, {api.Wide{Hi: -1, Lo: 1 << 63}, least, true}, {api.Wide{Hi: -1, Lo: greatest}, 0, false}, {api.Wide{Hi: 1}, 0, false}} {
		if v, ok := micro.Fits(c.w); v != c.want || ok != c.ok {
			t.Errorf("Fits(%v) = %d, %v", c.w, v, ok)
		}
	}
}

func TestP2_9_ThereAndBack(t *testing.T) {
	for _, v := range values() {
		s := micro.Print(v)
		if w, err := micro.Read(s); err != api.OK || w != wide.Of(v) {
			t.Errorf("Read(%q) = %v, %d", s, w, err)
		}
		got, err := micro.Parse(s)
		if usual(v) && (err != api.OK || got != v) || !usual(v) && err != api.ErrRange {
			t.Errorf("Parse(%q) = %d, %d", s, got, err)
		}
		w := api.Wide{Hi: v, Lo: uint64(v) * 77}
		if back, err := micro.Read(micro.Show(w)); err != api.OK || back != w {
			t.Errorf("Read(Show(%v)) = %v, %d", w, back, err)
		}
	}
}

func TestP2_10_Shortest(t *testing.T) {
	for _, s := range []string{"007.50", "-0", "0.10", "1.000000", "-00.5", "12", "0.000010", "-1.5"} {
		if v, err := micro.Parse(s); err != api.OK || len(micro.Print(v)) > len(s) {
			t.Errorf("Print(Parse(%q)) = %q", s, micro.Print(v))
		}
	}
	for _, v := range values() {
		s := micro.Print(v)
		if strings.Contains(s, ".") && strings.HasSuffix(s, "0") || strings.HasSuffix(s, ".") || len(strings.TrimLeft(s, "-")) > 1 && strings.TrimLeft(s, "-")[0] == '0' && strings.TrimLeft(s, "-")[1] != '.' {
			t.Errorf("Print(%d) = %q", v, s)
		}
	}
}

func TestP2_13_Scaled(t *testing.T) {
	for _, v := range values() {
		if !usual(v) {
			continue
		}
		for _, r := range []int64{1000, 1001, 300000, 999999, api.Unit} {
			s, err := micro.Scale(v, r)
			back := new(big.Int).Mul(big.NewInt(s), big.NewInt(r))
			want := new(big.Int).Mul(big.NewInt(v), big.NewInt(api.Unit))
			gap := new(big.Int).Sub(want, back)
			if err != api.OK || gap.CmpAbs(big.NewInt(r)) >= 0 || gap.Sign()*want.Sign() < 0 || r == api.Unit && s != v {
				t.Errorf("Scale(%d, %d) = %d, %d", v, r, s, err)
			}
			if v < api.MaxValue {
				if next, _ := micro.Scale(v+1, r); next < s {
					t.Errorf("Scale(%d, %d) = %d is below that of %d", v+1, r, next, v)
				}
			}
		}
	}
}
