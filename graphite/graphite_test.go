package graphite_test

import (
	"bytes"
	"encoding/hex"
	"math"
	"math/rand"
	"slices"
	"strings"
	"testing"

	"tumbler/api"
	"tumbler/graphite"
	"tumbler/wide"
)

func record(path string, v, at int64) api.Record {
	return api.Record{Path: path, Value: wide.Of(v), Time: at}
}

var wrong = []api.Record{record("", 1, 1), record("a b", 1, 1), record("a", 1, -1), record("a", 1, api.MaxStamp+1), record("a..b", 1, 1), record("a", 1, math.MinInt64)}

func TestP17_1_Encode(t *testing.T) {
	l := []api.Record{record("a.b", 1500000, 60), record("c", -1, 0), {Path: "d", Value: api.Wide{Hi: math.MinInt64}, Time: api.MaxStamp}}
	want := "a.b 1.5 60\nc -0.000001 0\nd -170141183460469231731687303715884.105728 1099511627775\n"
	if b, err := graphite.Encode(l); string(b) != want || err != api.OK {
		t.Errorf("Encode = %q, %d", b, err)
	}
	if b, err := graphite.Encode(nil); len(b) != 0 || err != api.OK {
		t.Errorf("Encode of none = %q, %d", b, err)
	}
	for _, r := range wrong {
		if b, err := graphite.Encode(append(l, r)); len(b) != 0 || err != api.ErrRecord {
			t.Errorf("Encode(%v) = %q, %d", r, b, err)
		}
	}
}

func TestP17_2_Decode(t *testing.T) {
	for s, line := range map[string]int{"a 1 60\nb 01 60\n": 2, "a 1 60": 1, "\n": 1, "a 1 60\n\n": 2, "a 1 60\r\n": 1, "a  1 60\n": 1, " a 1 60\n": 1, "a 1 60 \n": 1, "a 1\n": 1, "a\n": 1, "a 1 060\n": 1, "a 1 +6\n": 1, "a 1 -1\n": 1,
		"a 1 1099511627776\n": 1, "a 1.0 6\n": 1, "a .5 6\n": 1, "a -0 6\n": 1, "a +1 6\n": 1, "a 1e3 6\n": 1, "a..b 1 6\n": 1, "a 1.0000001 6\n": 1, "a 1 6\nb 1 6\nc": 3, "a 170141183460469231731687303715884.105728 1\n": 1,
		"a 1 99999999999999999999\n": 1, "a\t1 6\n": 1, "\x00": 1} {
		if l, at, err := graphite.Decode([]byte(s)); len(l) != 0 || at != line || err != api.ErrFrame {
			t.Errorf("Decode(%q) = %v, %d, %d; want line %d", s, l, at, err, line)
		}
	}
	if l, at, err := graphite.Decode(nil); len(l) != 0 || at != 0 || err != api.OK {
		t.Errorf("Decode of nothing: %v, %d, %d", l, at, err)
	}
}

// unhex are bytes of hexadecimal digits, blanks left out.
func unhex(s string) []byte {
	b, err := hex.DecodeString(strings.ReplaceAll(s, " ", ""))
	if err != nil {
		panic(s)
	}
	return b
}

// batch is a pickle with its length ahead.
func batch(pickle string) []byte {
	p := unhex(pickle)
	return append([]byte{byte(len(p) >> 24), byte(len(p) >> 16), byte(len(p) >> 8), byte(len(p))}, p...)
}

func TestP17_3_Batch(t *testing.T) {
	for _, c := range []struct {
		l    []api.Record
		want string
	}{
		{[]api.Record{record("a", 2000000, 7)}, "00000019 80025D28 580100000061 4A07000000 580100000032 8686652E"},
		{nil, "00000004 80025D2E"},
		{[]api.Record{record("ab", -500000, 1<<31-1), record("c", 0, 1<<31), record("c", 0, 1<<39-1), record("c", 0, 1<<39), record("c", 0, api.MaxStamp)},
			"00000073 80025D28 58020000006162 4Affffff7f 58040000002d302e35 8686 580100000063 8A050000008000 580100000030 8686 580100000063 8A05ffffffff7f 580100000030 8686 580100000063 8A06000000008000 580100000030 8686 580100000063 8A06ffffffffff00 580100000030 8686 652E"},
	} {
		if b, err := graphite.Batch(c.l); err != api.OK || !bytes.Equal(b, unhex(c.want)) {
			t.Errorf("Batch(%v) = %x, %d", c.l, b, err)
		}
	}
	for _, r := range wrong {
		if b, err := graphite.Batch([]api.Record{r}); len(b) != 0 || err != api.ErrRecord {
			t.Errorf("Batch(%v): %d", r, err)
		}
	}
	many := slices.Repeat([]api.Record{record("a", 1, 1)}, 500)
	if _, err := graphite.Batch(many); err != api.OK {
		t.Errorf("Batch of 500: %d", err)
	}
	if b, err := graphite.Batch(append(many, wrong[0])); len(b) != 0 || err != api.ErrMany {
		t.Errorf("Batch of 501: %d", err)
	}
	// A record of a value of one digit has 18 bytes beside its path: 499 and one of the rest make the greatest pickle.
	long := strings.Repeat("a", 113)
	full := slices.Repeat([]api.Record{record(long, 1000000, 1)}, 499)
	rest := 65536 - 6 - 499*(18+113) - 18
	if b, err := graphite.Batch(append(full, record(strings.Repeat("a", rest), 1000000, 1))); err != api.OK || len(b) != 65540 {
		t.Errorf("the greatest batch: %d, %d", len(b), err)
	} else if l, n, err := graphite.Unbatch(b); len(l) != 500 || n != 65540 || err != api.OK {
		t.Errorf("the greatest batch read: %d, %d, %d", len(l), n, err)
	}
	if b, err := graphite.Batch(append(full, record(strings.Repeat("a", rest+1), 1000000, 1))); len(b) != 0 || err != api.ErrLong {
		t.Errorf("a batch too great: %d", err)
	}
}

func TestP17_4_Lengths(t *testing.T) {
	for _, c := range []struct {
		b     string
		place int
		err   api.Errno
	}{{"000000025D2E99", 6, 0}, {"000000", 3, api.ErrShort}, {"", 0, api.ErrShort}, {"00010001", 0, api.ErrLong}, {"ffffffff", 0, api.ErrLong}, {"0001000080", 5, api.ErrShort}, {"000000035D2E", 6, api.ErrShort},
		{"000000015D", 5, api.ErrPickle}, {"0000000163", 4, api.ErrOp}, {"00000000", 4, api.ErrPickle}, {"000000005D2E", 4, api.ErrPickle}, {"000000035D2E2E", 5, api.ErrPickle}} {
		if l, place, err := graphite.Unbatch(unhex(c.b)); len(l) != 0 || place != c.place || err != c.err {
			t.Errorf("Unbatch(%s) = %v, %d, %d; want %d, %d", c.b, l, place, err, c.place, c.err)
		}
	}
}

// a7 is the record a 2 7 as a thing, of a text and a whole number.
const a7 = "550161 4B07 4B02 86 86 "

func TestP17_4_Machine(t *testing.T) {
	a := record("a", 2000000, 7)
	at := func(n int64) api.Record { return record("a", 2000000, n) }
	valued := func(n int64) api.Record {
		v, _ := wide.Mul(wide.Of(n), wide.Of(1000000))
		return api.Record{Path: "a", Value: v, Time: 7}
	}
	for s, want := range map[string][]api.Record{
		"5D" + a7 + "612E": {a}, "5D28" + a7 + a7 + "652E": {a, a}, "28" + a7 + "6C2E": {a}, "5D2865 2E": nil, "286C2E": nil,
		"5D 5401000000 61 4A07000000 550132 86 86 61 2E": {a},
		"5D 8C0161 49370A 4B02 86 86 61 2E":              {a}, "5D 8C0161 28 4D0001 4B02 74 86 61 2E": {at(256)}, "5D 28 8C0161 4B07 4B02 86 74 61 2E": {a},
		"5D 8C0161 8A0107 8A0102 8686 612E": {a}, "5D 8C0161 8A00 4B02 8686 612E": {at(0)}, "5D 8C0161 4B07 8A08 0000000000000080 8686 612E": {valued(math.MinInt64)},
		"5D 8C0161 4B07 8A01FF 8686 612E": {valued(-1)}, "5D 8C0161 4B07 4AFEFFFFFF 8686 612E": {valued(-2)}, "5D 8C0161 4B07 492D390A 8686 612E": {valued(-9)},
		"5D 8C0161 4B07 49393232333337323033363835343737353830370A 8686 612E": {valued(math.MaxInt64)},
		"8005 95 0102030405060708 5D" + a7 + "612E":                           {a}, "8000 5D 2E": nil,
		"5D 32 30" + a7 + "612E": {a}, "5D 28 30" + a7 + "612E": {a}, "5D 28 4B01 28 4B02 31 31" + a7 + "612E": {a},
		"5D" + a7 + "7105 61 6805 61 2E": {a, a}, "5D" + a7 + "7205000000 61 6805 61 2E": {a, a}, "5D" + a7 + "72FFFFFFFF 61 6AFFFFFFFF 61 2E": {a, a},
		"5D 94" + a7 + "94 30 6801 61 2E": {a}, "5D" + a7 + "7105 30 5501 62 7105 30 6805 4B07 4B02 8686 612E": {record("b", 2000000, 7)},
		"5D 4B01 7107 30" + a7 + "94 30 6801 612E": {a}, "5D 7100 6800 30" + a7 + "61 2E": {a}, "5D 3261 30 5D" + a7 + "612E": {a},
		"5D 5D 7101" + a7 + "61 30 6801 30 30 6801 2E": {a}, // a list is one and the same at all its places
		"5D 7101 30 6801 6801" + a7 + "61 30 2E":       {a}, "5D 29 30 2E": nil, "5D 28 29 85 4B01 86 4B01 4B02 87 31 2E": nil, "5D 4B01 4B02 4B03 87 30 2E": nil,
	} {
		b := batch(s)
		if l, n, err := graphite.Unbatch(append(slices.Clip(b), 0x99)); err != api.OK || n != len(b) || !(len(l) == 0 && len(want) == 0) && !equal(l, want) {
			t.Errorf("Unbatch(%s) = %v, %d, %d; want %v", s, l, n, err, want)
		}
	}
}

func TestP17_4_Faults(t *testing.T) {
	for _, c := range []struct {
		s     string
		place int // from the pickle's beginning
		err   api.Errno
	}{
		{"5D 4A010000", 1, api.ErrPickle}, {"5D 4D01", 1, api.ErrPickle}, {"5D 4B", 1, api.ErrPickle}, {"5D 8A", 1, api.ErrPickle}, {"5D 8A0201", 1, api.ErrPickle}, {"5D 8A09 000000000000000000 2E", 1, api.ErrPickle},
		{"5D 49310A", 4, api.ErrPickle}, {"5D 4931", 1, api.ErrPickle}, {"5D 490A 2E", 1, api.ErrPickle}, {"5D 4930310A 2E", 1, api.ErrPickle}, {"5D 492D300A 2E", 1, api.ErrPickle}, {"5D 49310D0A 2E", 1, api.ErrPickle},
		{"5D 49 39323233333732303336383534373735383038 0A 2E", 1, api.ErrPickle}, {"5D 5802000000 61", 1, api.ErrPickle}, {"5D 58FFFFFFFF 61", 1, api.ErrPickle}, {"5D 550261", 1, api.ErrPickle}, {"5D 580100", 1, api.ErrPickle},
		{"5D 8002 2E", 1, api.ErrPickle}, {"8006 5D 2E", 0, api.ErrPickle}, {"80", 0, api.ErrPickle}, {"8002 8002", 2, api.ErrPickle}, {"95 01020304050607", 0, api.ErrPickle},
		{"61", 0, api.ErrPickle}, {"5D 61", 1, api.ErrPickle}, {"4B01 4B02 61", 4, api.ErrPickle}, {"5D 28 61", 2, api.ErrPickle}, {"5D 28 4B01 61", 4, api.ErrPickle}, {"65", 0, api.ErrPickle}, {"5D 65", 1, api.ErrPickle}, {"28 65", 1, api.ErrPickle},
		{"4B01 28 65", 3, api.ErrPickle}, {"28 28 65", 2, api.ErrPickle}, {"6C", 0, api.ErrPickle}, {"4B01 74", 2, api.ErrPickle}, {"85", 0, api.ErrPickle}, {"4B01 86", 2, api.ErrPickle}, {"4B01 28 4B01 86", 5, api.ErrPickle}, {"4B01 4B01 87", 4, api.ErrPickle},
		{"30", 0, api.ErrPickle}, {"31", 0, api.ErrPickle}, {"5D 31", 1, api.ErrPickle}, {"32", 0, api.ErrPickle}, {"28 32", 1, api.ErrPickle}, {"7100", 0, api.ErrPickle}, {"28 7100", 1, api.ErrPickle}, {"5D 71", 1, api.ErrPickle}, {"5D 72000000", 1, api.ErrPickle},
		{"94", 0, api.ErrPickle}, {"28 94", 1, api.ErrPickle}, {"6800", 0, api.ErrPickle}, {"5D 7101 6800", 3, api.ErrPickle}, {"5D 7101 6A01000001", 3, api.ErrPickle}, {"5D 68", 1, api.ErrPickle}, {"6A000000", 0, api.ErrPickle},
		{"2E", 0, api.ErrPickle}, {"4B01 2E", 2, api.ErrPickle}, {"5D5D 2E", 2, api.ErrPickle}, {"28 5D 2E", 2, api.ErrPickle}, {"28 2E", 1, api.ErrPickle}, {"5D 2E 00", 1, api.ErrPickle}, {"29 2E", 1, api.ErrPickle}, {"5D", 1, api.ErrPickle}, {"5D 4B01", 3, api.ErrPickle}, {"5D 4D0102", 4, api.ErrPickle}, {"5D 550161", 4, api.ErrPickle}, {"5D 49310A30", 5, api.ErrPickle}, {"5D 7101", 3, api.ErrPickle},
		{"5D 00", 1, api.ErrOp}, {"5D 63", 1, api.ErrOp}, {"52", 0, api.ErrOp}, {"5D 4E", 1, api.ErrOp}, {"FF", 0, api.ErrOp}, {"5D 88", 1, api.ErrOp}, {"56", 0, api.ErrOp},
	} {
		b := batch(c.s)
		if l, place, err := graphite.Unbatch(append(b, 0x0A, 0x0A, 0x0A, 0x0A, 0x2E)); len(l) != 0 || place != 4+c.place || err != c.err {
			t.Errorf("Unbatch(%s) = %v, %d, %d; want %d, %d", c.s, l, place, err, 4+c.place, c.err)
		}
	}
	known := "28 29 2E 30 31 32 49 4A 4B 4D 54 55 58 5D 61 65 68 6A 6C 71 72 74 80 85 86 87 8A 8C 94 95"
	for op := range 256 {
		_, place, err := graphite.Unbatch([]byte{0, 0, 0, 2, 0x5D, byte(op)})
		isKnown := bytes.IndexByte(unhex(known), byte(op)) >= 0
		if (err == api.ErrOp) == isKnown || err == api.ErrOp && place != 5 {
			t.Errorf("operation %x: %d at %d", op, err, place)
		}
	}
}

func TestP17_4_Records(t *testing.T) {
	for _, c := range []struct {
		s      string
		number int
	}{
		{"5D 4B07 550161 86 612E", 0}, {"5D 32 61 2E", 0}, {"5D 550161 4B07 86 612E", 0}, {"5D 550161 4B07 86 612E", 0}, {"5D" + a7 + "61 4B01 612E", 1}, {"5D 550161 4B07 4B02 87 612E", 0}, {"5D 550161 4B07 4B02 86 4B02 87 612E", 0}, {"5D 5D 4B07 4B02 86 86 612E", 0}, {"5D 550161 550137 4B02 8686 612E", 0},
		{"5D 550161 4B07 5501 78 8686 612E", 0}, {"5D 550161 4B07 5503 312E30 8686 612E", 0}, {"5D 550161 4B07 5500 8686 612E", 0}, {"5D 550161 4B07 5D 8686 612E", 0}, {"5D 550161 4AFFFFFFFF 4B02 8686 612E", 0}, {"5D 5500 4B07 4B02 8686 612E", 0},
		{"5D 550120 4B07 4B02 8686 612E", 0}, {"5D 550161 8A06000000000001 4B02 8686 612E", 0}, {"5D 550161 5D 4B07 61 4B02 8686 612E", 0}, {"5D 28 29 29 652E", 0}, {"5D 550161 4B07 4B02 4B02 87 86 612E", 0}, {"5D 550161 28 4B07 4B02 6C 86 612E", 0},
		{"5D 5D 7100 6800 61 61 2E", 0}, {"5D 4B07 4B07 4B02 8686 612E", 0},
	} {
		if l, place, err := graphite.Unbatch(batch(c.s)); len(l) != 0 || place != c.number || err != api.ErrRecord {
			t.Errorf("Unbatch(%s) = %v, %d, %d; want the number %d", c.s, l, place, err, c.number)
		}
	}
	many := batch("5D" + a7 + "71003028" + strings.Repeat("6800", 500) + "652E")
	if l, _, err := graphite.Unbatch(many); len(l) != 500 || err != api.OK {
		t.Errorf("500 records: %d, %d", len(l), err)
	}
	many = batch("5D28" + strings.Repeat("29", 501) + "652E")
	if l, place, err := graphite.Unbatch(many); len(l) != 0 || place != 0 || err != api.ErrMany {
		t.Errorf("501 things: %d, %d", place, err)
	}
}

// What another program's pickler writes of [("a.b", (60, "1.5")), ("a.b", (1099511627775, 7)), ("c", (70000, -3)), ("c", (300, "1.5"))].
const (
	protocol2 = "80025d7100285803000000612e6271014b3c5803000000312e35710286710386710468018a06ffffffffff004b0786710586710658010000006371074a701101004afdffffff86710886710968074d2c01680286710a86710b652e"
	protocol4 = "80049544000000000000005d94288c03612e62944b3c8c03312e35948694869468018a06ffffffffff004b07869486948c0163944a701101004afdffffff8694869468074d2c01680286948694652e"
)

func TestP17_4_OthersPickles(t *testing.T) {
	want := []api.Record{record("a.b", 1500000, 60), record("a.b", 7000000, 1099511627775), record("c", -3000000, 70000), record("c", 1500000, 300)}
	for _, s := range []string{protocol2, protocol4} {
		if l, _, err := graphite.Unbatch(batch(s)); err != api.OK || !equal(l, want) {
			t.Errorf("Unbatch = %v, %d", l, err)
		}
	}
}

func TestP17_5_ThereAndBack(t *testing.T) {
	r := rand.New(rand.NewSource(21))
	for range 300 {
		var l []api.Record
		for range r.Intn(20) {
			l = append(l, api.Record{Path: "a." + strings.Repeat("b", 1+r.Intn(150)), Value: api.Wide{Hi: int64(r.Uint64()) >> r.Intn(64), Lo: r.Uint64()}, Time: r.Int63n(api.MaxStamp+1) >> r.Intn(41)})
		}
		b, _ := graphite.Encode(l)
		if back, _, err := graphite.Decode(b); err != api.OK || len(l) > 0 && !equal(back, l) || len(back) != len(l) {
			t.Fatalf("Decode(%q) = %v, %d", b, back, err)
		}
		b, _ = graphite.Batch(l)
		if back, n, err := graphite.Unbatch(append(slices.Clip(b), 1, 2, 3)); err != api.OK || n != len(b) || len(l) > 0 && !equal(back, l) || len(back) != len(l) {
			t.Fatalf("Unbatch = %v, %d", back, err)
		}
		// Whatever bytes come in, the call ends with records or an error at a place within.
		for range 20 {
			if len(b) > 8 {
				b[4+r.Intn(len(b)-4)] = byte(r.Intn(256))
			}
			if got, n, err := graphite.Unbatch(b); n < 0 || n > len(b) || err != api.OK && len(got) != 0 {
				t.Fatalf("Unbatch(%x) = %d, %d", b, n, err)
			}
		}
	}
}
