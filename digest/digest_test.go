package digest

import (
	"encoding/binary"
	"math"
	"math/big"
	"slices"
	"strings"
	"sync"
	"testing"
)

// first is what a digest of no byte is.
const first = uint64(14695981039346656037)

// known are digests of FNV-1a of 64 bits that others have told, and some that were worked out by hand.
func known() map[string]uint64 {
	return map[string]uint64{
		"":       first,
		"a":      0xaf63dc4c8601ec8c,
		"b":      0xaf63df4c8601f1a5,
		"foobar": 0x85944171f73967e8,
		"\x00":   0xaf63bd4c8601b7df, // the first one, multiplied
		"\xff":   0xaf64724c8602eb6e,
	}
}

// summed works a digest out apart from the program's own way, by numbers that lose nothing and a rest behind each byte.
func summed(bs []byte) uint64 {
	end := new(big.Int).Lsh(big.NewInt(1), 64)
	sum := new(big.Int).SetUint64(first)
	for _, b := range bs {
		sum.Xor(sum, big.NewInt(int64(b)))
		sum.Mul(sum, big.NewInt(1099511628211))
		sum.Mod(sum, end)
	}
	return sum.Uint64()
}

// laid are the bytes of digests, 8 each, the highest first.
func laid(ds ...uint64) []byte {
	var b []byte
	for _, d := range ds {
		b = binary.BigEndian.AppendUint64(b, d)
	}
	return b
}

// numbers answers a source of bytes and digests that are the same each time.
func numbers() func() uint64 {
	state := uint64(88172645463325252)
	return func() uint64 {
		state ^= state << 13
		state ^= state >> 7
		state ^= state << 17
		return state
	}
}

func TestOfExample(t *testing.T) {
	if got := Of(); got != 14695981039346656037 {
		t.Errorf("P5.1: Of(): %d", got)
	}
}

func TestOfKnown(t *testing.T) {
	for s, want := range known() {
		if got := Of([]byte(s)); got != want {
			t.Errorf("P5.1: Of(%q): %x, not %x", s, got, want)
		}
	}
}

func TestOfNothing(t *testing.T) {
	for name, parts := range map[string][][]byte{
		"no part":            nil,
		"no part, in a list": {},
		"a nil part":         {nil},
		"an empty part":      {{}},
		"nil, empty, nil":    {nil, {}, nil},
		"empty, with room":   {make([]byte, 0, 9)},
	} {
		if got := Of(parts...); got != first {
			t.Errorf("P5.1: Of %s: %x", name, got)
		}
	}
}

func TestOfPartsIsOfAllBytes(t *testing.T) {
	s := []byte("To be,\x00or\xff not")
	want := summed(s)
	if got := Of(s); got != want {
		t.Errorf("P5.1: Of(%q): %x, not %x", s, got, want)
	}
	for i := range len(s) + 1 {
		for j := i; j <= len(s); j++ {
			if got := Of(s[:i], s[i:j], s[j:]); got != want {
				t.Errorf("P5.1: Of(%q, %q, %q): %x, not %x", s[:i], s[i:j], s[j:], got, want)
			}
			if got := Of(nil, s[:i], []byte{}, s[i:j], nil, s[j:], nil); got != want {
				t.Errorf("P5.1: Of %q, %q, %q with empty parts: %x, not %x", s[:i], s[i:j], s[j:], got, want)
			}
		}
	}
	var bytesAlone [][]byte
	for i := range s {
		bytesAlone = append(bytesAlone, s[i:i+1])
	}
	if got := Of(bytesAlone...); got != want {
		t.Errorf("P5.1: Of a part each byte: %x, not %x", got, want)
	}
}

func TestOfIsInOrder(t *testing.T) {
	for _, x := range []struct{ a, b string }{{"ab", "ba"}, {"a\x00", "\x00a"}, {"a", "a\x00"}, {"", "\x00"}, {"\x00", "\x00\x00"}} {
		if Of([]byte(x.a)) == Of([]byte(x.b)) {
			t.Errorf("P5.1: Of(%q) is Of(%q)", x.a, x.b)
		}
	}
	if Of([]byte("a"), []byte("b")) == Of([]byte("b"), []byte("a")) {
		t.Error("P5.1: Of parts is not by their order")
	}
}

// TestOfEachByte: of each of them the multiplying passes 64 bits, and of some of them by more than of others.
func TestOfEachByte(t *testing.T) {
	for x := range 256 {
		for _, bs := range [][]byte{{byte(x)}, {0, byte(x)}, {byte(x), 0}, {byte(x), byte(x), byte(x)}, {255, byte(x), 255}} {
			if got, want := Of(bs), summed(bs); got != want {
				t.Errorf("P5.1: Of(%v): %x, not %x", bs, got, want)
			}
		}
	}
}

func TestOfMany(t *testing.T) {
	next := numbers()
	for many := range 300 {
		bs := make([]byte, many)
		for i := range bs {
			bs[i] = byte(next() >> 20)
		}
		cut := int(next() % uint64(many+1))
		want := summed(bs)
		if got := Of(bs); got != want {
			t.Fatalf("P5.1: Of(%v): %x, not %x", bs, got, want)
		}
		if got := Of(bs[:cut], bs[cut:]); got != want {
			t.Fatalf("P5.1: Of(%v, %v): %x, not %x", bs[:cut], bs[cut:], got, want)
		}
	}
}

func TestAllOfZeros(t *testing.T) {
	if got := All(); got != 0 {
		t.Errorf("P5.1: All(): %x", got)
	}
	if got := All(0); got != 0 {
		t.Errorf("P5.1: All(0): %x", got)
	}
	if got := All(0, 0, 0, 0); got != 0 {
		t.Errorf("P5.1: All of four 0: %x", got)
	}
	for many := range 1000 {
		if got := All(make([]uint64, many)...); got != 0 {
			t.Fatalf("P5.1: All of %d times 0: %x", many, got)
		}
	}
}

func TestAllIsOfTheirBytes(t *testing.T) {
	for _, ds := range [][]uint64{
		{1}, {255}, {256}, {1 << 63}, {math.MaxUint64}, {math.MaxUint64 - 1}, {0x0102030405060708}, {first},
		{1, 0}, {0, 1}, {0, 0, 0, 1}, {1, 0, 0, 0}, {0, 1, 0}, {0, 1 << 63}, {1 << 63, 0}, {1 << 56, 0}, {0, 1 << 8},
		{math.MaxUint64, 0}, {0, math.MaxUint64}, {0, 0, math.MaxUint64, 0},
		{math.MaxUint64, math.MaxUint64}, {math.MaxUint64, math.MaxUint64, math.MaxUint64, math.MaxUint64},
		{1, 2}, {2, 1}, {1, 2, 3, 4}, {0x0102030405060708, 0, 0xf1f2f3f4f5f6f7f8, 9}, {first, first},
		// Exclusive or, or adding, makes 0 of these; they are not all 0.
		{7, 7}, {1, math.MaxUint64}, {1 << 63, 1 << 63},
	} {
		want := summed(laid(ds...))
		if got := All(ds...); got != want {
			t.Errorf("P5.1: All(%x): %x, not %x", ds, got, want)
		}
		if got := Of(laid(ds...)); got != want {
			t.Errorf("P5.1: Of the bytes of %x: %x, not %x", ds, got, want)
		}
	}
	if All(0x0102030405060708, 9) != Of([]byte{1, 2, 3, 4, 5, 6, 7, 8, 0, 0, 0, 0, 0, 0, 0, 9}) {
		t.Error("P5.1: All is not Of 8 bytes each, the highest first")
	}
}

func TestAllTellsPlacesAndHowMany(t *testing.T) {
	seen := map[uint64]int{}
	cases := [][]uint64{{1}, {1, 0}, {0, 1}, {1, 0, 0}, {0, 1, 0}, {0, 0, 1}, {1, 1}, {1, 2}, {2, 1}, {256}, {1 << 56}}
	for i, ds := range cases {
		d := All(ds...)
		if j, ok := seen[d]; ok {
			t.Errorf("P5.1: All(%v) is All(%v)", ds, cases[j])
		}
		seen[d] = i
	}
}

func TestAllOfEachBit(t *testing.T) {
	for bit := range 64 {
		d := uint64(1) << bit
		for _, ds := range [][]uint64{{d}, {0, d}, {d, 0}, {math.MaxUint64 ^ d, d}} {
			if got, want := All(ds...), summed(laid(ds...)); got != want {
				t.Errorf("P5.1: All(%x): %x, not %x", ds, got, want)
			}
		}
	}
}

func TestAllOfMany(t *testing.T) {
	next := numbers()
	for many := 1; many < 200; many++ {
		ds := make([]uint64, many)
		for i := range ds {
			if next()%3 > 0 {
				ds[i] = next()
			}
		}
		ds[int(next()%uint64(many))] = next() | 1
		if got, want := All(ds...), summed(laid(ds...)); got != want {
			t.Fatalf("P5.1: All(%x): %x, not %x", ds, got, want)
		}
	}
}

func TestOfChangesNothing(t *testing.T) {
	for _, s := range []string{"", "a", "To be, OR", strings.Repeat("\xff\x00", 40)} {
		room := append([]byte(s), "room behind it"...)
		cut := len(s) / 2
		partsRoom := [][]byte{room[:cut], nil, room[cut:len(s)], {}, []byte("behind")}
		parts, before := partsRoom[:4], slices.Clone(partsRoom)
		want := Of(parts...)
		if string(room) != s+"room behind it" {
			t.Errorf("R4: Of changed %q to %q", s, room)
		}
		for i, part := range partsRoom {
			if string(part) != string(before[i]) || (part == nil) != (before[i] == nil) || cap(part) != cap(before[i]) {
				t.Errorf("R4: Of %q changed part %d to %q", s, i, part)
			}
		}
		for i := range room {
			room[i] = '#'
		}
		if got := Of([]byte(s)); got != want {
			t.Errorf("R5: Of(%q): %x, then %x", s, want, got)
		}
	}
}

func TestAllChangesNothing(t *testing.T) {
	for _, ds := range [][]uint64{{}, {0}, {0, 0, 0}, {5}, {0, 5}, {5, 0}, {math.MaxUint64, 1, 2, 0}} {
		room := append(slices.Clone(ds), 11, 0, 13)
		before := slices.Clone(room)
		want := All(room[:len(ds)]...)
		if !slices.Equal(room, before) {
			t.Errorf("R4: All changed %v to %v", before, room)
		}
		for i := range room {
			room[i] = 77
		}
		if got := All(ds...); got != want {
			t.Errorf("R5: All(%v): %x, then %x", ds, want, got)
		}
	}
}

func TestManyAtOneTime(t *testing.T) {
	parts, ds := [][]byte{[]byte("foo"), nil, []byte("bar")}, []uint64{0, 7, math.MaxUint64}
	all := summed(laid(ds...))
	var wait sync.WaitGroup
	for range 8 {
		wait.Go(func() {
			for range 100 {
				if Of(parts...) != 0x85944171f73967e8 || All(ds...) != all || All(0, 0) != 0 {
					t.Error("R5: unlike answers at one time")
				}
			}
		})
	}
	wait.Wait()
}
