package octets_test

import (
	"bytes"
	"testing"

	"tumbler/octets"
	"tumbler/ring"
)

func TestNumbers(t *testing.T) {
	if b := octets.Append([]byte{9}, 0x01020304050607, 4); !bytes.Equal(b, []byte{9, 4, 5, 6, 7}) || octets.Read(b[1:]) != 0x04050607 {
		t.Errorf("Append = %v", b)
	}
	if b := octets.AppendLow([]byte{9}, 0x0102030405060708, 6); !bytes.Equal(b, []byte{9, 8, 7, 6, 5, 4, 3}) || octets.ReadLow(b[1:]) != 0x030405060708 {
		t.Errorf("AppendLow = %v", b)
	}
	if b := octets.Append(nil, 1<<63+5, 8); octets.Read(b) != 1<<63+5 || octets.ReadLow(octets.AppendLow(nil, 1<<63+5, 8)) != 1<<63+5 || octets.Read(nil) != 0 {
		t.Errorf("Append = %v", b)
	}
}

func TestSum(t *testing.T) {
	for _, s := range []string{"", "a", "\xff\x00b"} {
		if octets.Sum([]byte(s)) != ring.Hash(s) {
			t.Errorf("Sum(%q)", s)
		}
	}
}
