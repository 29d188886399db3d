package octets

import (
	"encoding/binary"
	"math"
	"slices"
	"testing"
)

func TestPut(t *testing.T) {
	for _, x := range []struct {
		number, many int
		want         []byte
	}{
		{0, 0, nil}, {7, 0, nil},
		{0, 1, []byte{0}}, {7, 1, []byte{7}}, {255, 1, []byte{255}},
		{0, 2, []byte{0, 0}}, {255, 2, []byte{0, 255}}, {256, 2, []byte{1, 0}}, {258, 2, []byte{1, 2}}, {65535, 2, []byte{255, 255}},
		{0x010203040506, 6, []byte{1, 2, 3, 4, 5, 6}}, {math.MaxInt, 8, []byte{127, 255, 255, 255, 255, 255, 255, 255}},
		// What is above the bytes is lost.
		{0x010203, 2, []byte{2, 3}}, {256, 1, []byte{0}},
	} {
		if got := Put(nil, x.number, x.many); !slices.Equal(got, x.want) {
			t.Errorf("Put(%d) in %d: %v, not %v", x.number, x.many, got, x.want)
		}
		if got := Put([]byte{9, 8}, x.number, x.many); !slices.Equal(got, append([]byte{9, 8}, x.want...)) {
			t.Errorf("Put(%d) in %d, behind others: %v", x.number, x.many, got)
		}
	}
}

func TestTake(t *testing.T) {
	for _, x := range []struct {
		b          []byte
		many, want int
		behind     []byte
	}{
		{nil, 0, 0, nil}, {[]byte{5}, 0, 0, []byte{5}},
		{[]byte{5}, 1, 5, nil}, {[]byte{255, 6}, 1, 255, []byte{6}},
		{[]byte{1, 2, 3}, 2, 258, []byte{3}}, {[]byte{255, 255}, 2, 65535, nil}, {[]byte{1, 0}, 2, 256, nil},
		{[]byte{1, 2, 3, 4, 5, 6}, 6, 0x010203040506, nil},
	} {
		if got, behind := Take[int](x.b, x.many); got != x.want || !slices.Equal(behind, x.behind) {
			t.Errorf("Take %d of %v: %d, %v", x.many, x.b, got, behind)
		}
	}
}

// TestThereAndBack: of numbers of 64 bits, the highest one set too.
func TestThereAndBack(t *testing.T) {
	for bit := range 64 {
		for _, number := range []uint64{1 << bit, 1<<bit - 1, math.MaxUint64 << bit} {
			b := Put(nil, number, 8)
			if want := binary.BigEndian.AppendUint64(nil, number); !slices.Equal(b, want) {
				t.Errorf("Put(%x): %v, not %v", number, b, want)
			}
			if got, behind := Take[uint64](append(b, 3), 8); got != number || !slices.Equal(behind, []byte{3}) {
				t.Errorf("Take of Put(%x): %x, %v", number, got, behind)
			}
		}
	}
}
