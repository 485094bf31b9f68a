package wide_test

import (
	"math/big"
	"math/rand"
	"strings"
	"testing"

	"tumbler/api"
	"tumbler/wide"
)

var (
	least    = api.Wide{Hi: -1 << 63}
	greatest = api.Wide{Hi: 1<<63 - 1, Lo: 1<<64 - 1}
)

func toBig(a api.Wide) *big.Int {
	n := new(big.Int).Lsh(big.NewInt(a.Hi), 64)
	return n.Add(n, new(big.Int).SetUint64(a.Lo))
}

func fits(n *big.Int) bool {
	return n.Cmp(toBig(least)) >= 0 && n.Cmp(toBig(greatest)) <= 0
}

// numbers are the edges of limbs and of 128 bits, and some of all lengths.
func numbers() []api.Wide {
	l := []api.Wide{least, greatest, {Hi: -1 << 63, Lo: 1}, {Hi: 1<<63 - 1, Lo: 1<<64 - 2},
		{Hi: -1, Lo: 0}, {Hi: 0, Lo: 1<<64 - 1}, {Hi: 1, Lo: 0}, {Hi: -1, Lo: 1 << 63}, {Hi: 0, Lo: 1 << 63}}
	for _, n := range []int64{0, 1, -1, 2, -2, 3, 7, -7, 10, 99, 1<<63 - 1, -1 << 63, 1 << 62} {
		l = append(l, wide.Of(n))
	}
	r := rand.New(rand.NewSource(1))
	for range 60 {
		a := api.Wide{Hi: int64(r.Uint64()), Lo: r.Uint64()}
		if by := r.Intn(128); by >= 64 {
			a = api.Wide{Hi: a.Hi >> 63, Lo: uint64(a.Hi >> (by - 64))}
		} else {
			a = api.Wide{Hi: a.Hi >> by, Lo: a.Lo}
		}
		l = append(l, a)
	}
	return l
}

// same fails unless the answer is the number n, or ErrOver where 128 bits don't hold it.
func same(t *testing.T, what string, got api.Wide, err api.Errno, n *big.Int) {
	t.Helper()
	if !fits(n) {
		if err != api.ErrOver || got != (api.Wide{}) {
			t.Errorf("%s = %v, %d; want ErrOver", what, got, err)
		}
		return
	}
	if err != api.OK || toBig(got).Cmp(n) != 0 {
		t.Errorf("%s = %v, %d; want %v", what, got, err, n)
	}
}

func TestP1_1_OrderAndSmall(t *testing.T) {
	if wide.Of(-1) != (api.Wide{Hi: -1, Lo: 18446744073709551615}) {
		t.Error("Of(-1)")
	}
	for _, a := range numbers() {
		n, ok := wide.Small(a)
		if ok != toBig(a).IsInt64() || ok && wide.Of(n) != a || !ok && n != 0 {
			t.Errorf("Small(%v) = %d, %v", a, n, ok)
		}
		if wide.Sign(a) != toBig(a).Sign() {
			t.Errorf("Sign(%v) = %d", a, wide.Sign(a))
		}
		for _, b := range numbers() {
			if wide.Cmp(a, b) != toBig(a).Cmp(toBig(b)) {
				t.Errorf("Cmp(%v, %v) = %d", a, b, wide.Cmp(a, b))
			}
		}
	}
}

func TestP1_2_SumsAndProducts(t *testing.T) {
	for _, a := range numbers() {
		x := toBig(a)
		got, err := wide.Neg(a)
		same(t, "Neg", got, err, new(big.Int).Neg(x))
		got, err = wide.Abs(a)
		same(t, "Abs", got, err, new(big.Int).Abs(x))
		for _, b := range numbers() {
			y := toBig(b)
			got, err = wide.Add(a, b)
			same(t, "Add", got, err, new(big.Int).Add(x, y))
			got, err = wide.Sub(a, b)
			same(t, "Sub", got, err, new(big.Int).Sub(x, y))
			got, err = wide.Mul(a, b)
			same(t, "Mul", got, err, new(big.Int).Mul(x, y))
		}
	}
	if p, err := wide.Mul(wide.Of(-7), wide.Of(6)); err != api.OK || wide.Print(p) != "-42" {
		t.Errorf("Mul(-7, 6) = %v, %d", p, err)
	}
}

func TestP1_3_Quotients(t *testing.T) {
	for _, a := range numbers() {
		for _, b := range numbers() {
			q, r, err := wide.Quo(a, b)
			if wide.Sign(b) == 0 {
				if err != api.ErrZero || q != (api.Wide{}) || r != (api.Wide{}) {
					t.Errorf("Quo(%v, 0) = %v, %v, %d", a, q, r, err)
				}
				continue
			}
			wantQ, wantR := new(big.Int).QuoRem(toBig(a), toBig(b), new(big.Int))
			same(t, "Quo", q, err, wantQ)
			if err == api.OK && toBig(r).Cmp(wantR) != 0 {
				t.Errorf("Quo(%v, %v): %v is left, want %v", a, b, r, wantR)
			}
			if err != api.OK && r != (api.Wide{}) {
				t.Errorf("Quo(%v, %v): an error, and %v", a, b, r)
			}
		}
	}
	if q, r, err := wide.Quo(least, wide.Of(-1)); err != api.ErrOver {
		t.Errorf("Quo(least, -1) = %v, %v, %d", q, r, err)
	}
	if q, r, err := wide.Quo(least, wide.Of(1)); err != api.OK || q != least || r != (api.Wide{}) {
		t.Errorf("Quo(least, 1) = %v, %v, %d", q, r, err)
	}
}

func TestP1_4_SumOfAll(t *testing.T) {
	one, minusOne := wide.Of(1), wide.Of(-1)
	for _, l := range [][]api.Wide{{}, {greatest, one, minusOne}, {one, greatest, minusOne}, {greatest, one},
		{least, minusOne}, {least, minusOne, one}, {least, least, greatest, greatest}, {greatest, greatest, greatest, least, least},
		{least, least, least, greatest, greatest, wide.Of(2)}, {least, least, least, greatest, greatest, wide.Of(1)}} {
		want := new(big.Int)
		for _, a := range l {
			want.Add(want, toBig(a))
		}
		got, err := wide.Sum(l...)
		same(t, "Sum", got, err, want)
	}
	many := make([]api.Wide, 1000)
	for i := range many {
		many[i] = greatest
		if i%2 == 1 {
			many[i] = least
		}
	}
	if got, err := wide.Sum(many...); err != api.OK || got != wide.Of(-500) {
		t.Errorf("Sum of many = %v, %d", got, err)
	}
}

func TestP1_5_Root(t *testing.T) {
	for _, a := range numbers() {
		got, err := wide.Root(a)
		if wide.Sign(a) < 0 {
			if err != api.ErrNeg || got != (api.Wide{}) {
				t.Errorf("Root(%v) = %v, %d", a, got, err)
			}
			continue
		}
		same(t, "Root", got, err, new(big.Int).Sqrt(toBig(a)))
	}
	for n := range int64(200) {
		got, err := wide.Root(wide.Of(n))
		same(t, "Root", got, err, new(big.Int).Sqrt(big.NewInt(n)))
	}
}

func TestP1_6_Texts(t *testing.T) {
	for _, a := range numbers() {
		if s := wide.Print(a); s != toBig(a).String() {
			t.Errorf("Print(%v) = %q", a, s)
		}
		if b, err := wide.Parse(wide.Print(a)); err != api.OK || b != a {
			t.Errorf("Parse(Print(%v)) = %v, %d", a, b, err)
		}
	}
	for _, s := range []string{"-0", "007", "1 ", "", "-", "+1", "00", "-01", "1a", "a1", "0x1", "--1", "1-", "\xff", "٣", " 1", "1_0", "0" + strings.Repeat("9", 99)} {
		if a, err := wide.Parse(s); err != api.ErrDigits || a != (api.Wide{}) {
			t.Errorf("Parse(%q) = %v, %d", s, a, err)
		}
	}
	for _, s := range []string{"170141183460469231731687303715884105728", "-170141183460469231731687303715884105729",
		"340282366920938463463374607431768211455", "340282366920938463463374607431768211456", "340282366920938463463374607431768211457",
		"1" + strings.Repeat("0", 500), "-1" + strings.Repeat("0", 500)} {
		if a, err := wide.Parse(s); err != api.ErrOver || a != (api.Wide{}) {
			t.Errorf("Parse(%q) = %v, %d", s, a, err)
		}
	}
	if a, err := wide.Parse("-170141183460469231731687303715884105728"); err != api.OK || a != least {
		t.Errorf("Parse of the least = %v, %d", a, err)
	}
}
