package segment

import (
	"bytes"
	"encoding/binary"
	"hash/fnv"
	"math"
	"math/rand/v2"
	"slices"
	"strings"
	"sync"
	"testing"

	"grapevine/api"
)

// rec is a short form of a record.
func rec(origin, seq, wall, count int, text string) api.Record {
	return api.Record{Key: api.Key{Origin: origin, Seq: seq}, Stamp: api.Stamp{Wall: wall, Count: count}, Text: text}
}

// base, one and mark are short forms of entries.
func base(v, w []int) api.Entry  { return api.Entry{Kind: api.FrameBase, V: v, W: w} }
func one(r api.Record) api.Entry { return api.Entry{Kind: api.FrameRecord, Record: r} }
func mark(w ...int) api.Entry    { return api.Entry{Kind: api.FrameMark, W: w} }

// filled is a vector of n numbers that are all x; none for n below 1.
func filled(n, x int) []int {
	return slices.Repeat([]int{x}, max(n, 0))
}

// with is v, but that its i-th number is x.
func with(v []int, i, x int) []int {
	v = slices.Clone(v)
	v[i] = x
	return v
}

// wrongCounts are numbers of origins that may not be.
func wrongCounts() []int {
	return []int{0, -1, -2, -8, api.MaxNodes + 1, api.MaxNodes + 2, 255, 256, 257, 258, 1 << 32, math.MaxInt, math.MinInt}
}

// mayBe are entries that may be for n origins: of each kind an ordinary one, and each number at its bounds.
func mayBe(n int) []api.Entry {
	entries := []api.Entry{
		base(filled(n, 0), filled(n, 0)), base(filled(n, 3), filled(n, 2)), base(filled(n, 258), filled(n, 258)),
		base(filled(n, api.MaxSeq), filled(n, api.MaxSeq)), base(filled(n, api.MaxSeq), filled(n, 0)),
		mark(filled(n, 0)...), mark(filled(n, 258)...), mark(filled(n, api.MaxSeq)...),
		one(rec(0, 1, 0, 0, "")), one(rec(n-1, 1, 0, 0, "")), one(rec(n-1, 3, 4, 5, "to be")), one(rec(0, api.MaxSeq, api.MaxWall, api.MaxCount, strings.Repeat("x", api.MaxText))),
		one(rec(n/2, 515, 1<<33+5, 258, "\u00e9\x00\ufffd")),
	}
	for i := range n {
		entries = append(entries,
			base(with(filled(n, 5), i, api.MaxSeq), filled(n, 5)), base(filled(n, 5), with(filled(n, 5), i, 0)), base(with(filled(n, 7), i, 6), filled(n, 6)),
			mark(with(filled(n, 5), i, api.MaxSeq)...), mark(with(filled(n, 5), i, 0)...), one(rec(i, 256, 1, 0, "a")))
	}
	return entries
}

// wrongNumbers are those that a vector may not have.
func wrongNumbers() []int {
	return []int{-1, api.MaxSeq + 1, -api.MaxSeq, 65535, 65536, 65536 + 5, math.MaxInt, math.MinInt}
}

// wrongRecords are records that may not be, each with one field past its bounds.
func wrongRecords() []api.Record {
	return []api.Record{
		{}, rec(-1, 1, 0, 0, ""), rec(math.MinInt, 1, 0, 0, ""), rec(0, 0, 0, 0, ""), rec(0, -1, 0, 0, ""), rec(0, api.MaxSeq+1, 0, 0, ""),
		rec(0, 1, -1, 0, ""), rec(0, 1, api.MaxWall+1, 0, ""), rec(0, 1, 0, -1, ""), rec(0, 1, 0, api.MaxCount+1, ""),
		rec(0, 1, 0, 0, strings.Repeat("x", api.MaxText+1)), rec(0, 1, 0, 0, "\xff"),
	}
}

// mayNotBe are entries that may not be for n origins, nor for another number: each is wrong in one way.
func mayNotBe(n int) []api.Entry {
	entries := append(wrongKinds(n), withOneMore(n)...)
	entries = append(entries, mark(), base(nil, nil), base([]int{}, []int{}),
		base(filled(n, 3), filled(n-1, 3)), base(filled(n-1, 3), filled(n, 3)), base(filled(n, 3), filled(n+1, 3)), base(filled(n, 3), nil), base(nil, filled(n, 3)),
		one(rec(api.MaxNodes, 1, 0, 0, "")), one(rec(api.MaxNodes+1, 1, 0, 0, "")), one(rec(math.MaxInt, 1, 0, 0, "")))
	for i := range n {
		entries = append(entries, base(filled(n, 3), with(filled(n, 3), i, 4)), base(with(filled(n, 3), i, 2), filled(n, 3)), base(with(filled(n, 9), i, 0), with(filled(n, 0), i, 1)))
		for _, x := range wrongNumbers() {
			entries = append(entries, mark(with(filled(n, 3), i, x)...), base(with(filled(n, 3), i, x), filled(n, 0)),
				base(filled(n, api.MaxSeq), with(filled(n, 0), i, x)), base(with(filled(n, 3), i, x), with(filled(n, 3), i, x)))
		}
	}
	for _, r := range wrongRecords() {
		entries = append(entries, one(r))
	}
	return entries
}

// wrongKinds are entries of no kind that there is, whatever else they have.
func wrongKinds(n int) []api.Entry {
	var entries []api.Entry
	for _, kind := range []int{0, 4, 5, 71, 255, 256, 257, 258, 259, -1, -2, -3, -255, 1 + 1<<32, math.MaxInt, math.MinInt} {
		for _, e := range []api.Entry{{}, base(filled(n, 3), filled(n, 2)), one(rec(0, 1, 0, 0, "a")), mark(filled(n, 2)...)} {
			e.Kind = kind
			entries = append(entries, e)
		}
	}
	return entries
}

// withOneMore are entries of each kind, with one field beside what their kind has that is not zero.
func withOneMore(n int) []api.Entry {
	var entries []api.Entry
	for _, r := range []api.Record{rec(1, 0, 0, 0, ""), rec(0, 1, 0, 0, ""), rec(0, 0, 1, 0, ""), rec(0, 0, 0, 1, ""), rec(0, 0, 0, 0, "a"), rec(0, 0, 0, 0, "\x00"), rec(-1, 0, 0, 0, ""), rec(0, 1, 7, 0, "a")} {
		entries = append(entries,
			api.Entry{Kind: api.FrameBase, V: filled(n, 3), W: filled(n, 2), Record: r},
			api.Entry{Kind: api.FrameMark, W: filled(n, 2), Record: r})
	}
	for _, v := range [][]int{{0}, {1}, filled(n, 0), filled(n, 3), filled(n+1, 0), {-1}} {
		entries = append(entries,
			api.Entry{Kind: api.FrameRecord, Record: rec(0, 1, 0, 0, "a"), V: v},
			api.Entry{Kind: api.FrameRecord, Record: rec(0, 1, 0, 0, "a"), W: v},
			api.Entry{Kind: api.FrameRecord, Record: rec(0, 1, 0, 0, "a"), V: v, W: v},
			api.Entry{Kind: api.FrameMark, W: filled(n, 2), V: v})
	}
	return entries
}

// emptyLists answers e with lists that are empty and not nil, where it has none.
func emptyLists(e api.Entry) api.Entry {
	if len(e.V) == 0 {
		e.V = make([]int, 0, 3)
	}
	if len(e.W) == 0 {
		e.W = []int{}
	}
	return e
}

// sealed are the bytes of a frame, written down apart from the program's own way.
func sealed(kind byte, held []byte) []byte {
	b := append(binary.BigEndian.AppendUint16([]byte{71, kind}, uint16(len(held))), held...)
	sum := fnv.New64a()
	sum.Write(b)
	return sum.Sum(b)
}

// numbers are a vector's bytes, written down apart from the program's own way; it need not be one that may be.
func numbers(v ...int) []byte {
	b := []byte{byte(len(v))}
	for _, x := range v {
		b = append(b, byte(x>>8), byte(x))
	}
	return b
}

// held are the bytes of a record, written down likewise.
func held(r api.Record) []byte {
	b := []byte{
		byte(r.Origin), byte(r.Seq >> 8), byte(r.Seq),
		byte(r.Wall >> 40), byte(r.Wall >> 32), byte(r.Wall >> 24), byte(r.Wall >> 16), byte(r.Wall >> 8), byte(r.Wall),
		byte(r.Count >> 8), byte(r.Count), byte(len(r.Text)),
	}
	return append(b, r.Text...)
}

// laid are the bytes that an entry of a right kind must have, written down likewise.
func laid(e api.Entry) []byte {
	switch e.Kind {
	case api.FrameBase:
		return sealed(1, slices.Concat(numbers(e.V...), numbers(e.W...)))
	case api.FrameRecord:
		return sealed(2, held(e.Record))
	}
	return sealed(3, numbers(e.W...))
}

// allLaid are the bytes of entries, one behind the other.
func allLaid(entries ...api.Entry) []byte {
	var b []byte
	for _, e := range entries {
		b = append(b, laid(e)...)
	}
	return b
}

// alike tells Same, apart from the program's own way.
func alike(a, b api.Entry) bool {
	return a.Kind == b.Kind && slices.Equal(a.V, b.V) && slices.Equal(a.W, b.W) && a.Record == b.Record
}

// reads asks what Read answers.
func reads(t *testing.T, why string, b []byte, n int, want []api.Entry, end int) {
	t.Helper()
	got, gotEnd := Read(b, n)
	if !slices.EqualFunc(got, want, alike) || gotEnd != end {
		t.Errorf("P8.1: Read for %d, %s: %d entries, %d bytes, not %d, %d: %v", n, why, len(got), gotEnd, len(want), end, got)
	}
}

// stops asks that Read of a segment stops ahead of b, whatever stands behind that.
func stops(t *testing.T, why string, n int, b []byte) {
	t.Helper()
	first, second := base(filled(n, 9), filled(n, 1)), one(rec(0, 1, 7, 0, "a"))
	reads(t, why+", behind a base", slices.Concat(laid(first), b), n, []api.Entry{first}, len(laid(first)))
	ahead := allLaid(first, second)
	reads(t, why+", between others", slices.Concat(ahead, b, laid(second)), n, []api.Entry{first, second}, len(ahead))
}

func TestMay(t *testing.T) {
	for n := 1; n <= api.MaxNodes; n++ {
		for _, e := range mayBe(n) {
			if !May(e, n) {
				t.Errorf("P8.1: May(%v, %d) is false", e, n)
			}
			if !May(emptyLists(e), n) {
				t.Errorf("P8.1: May(%v, %d), with lists that are empty and not nil, is false", e, n)
			}
		}
	}
}

func TestMayNot(t *testing.T) {
	for n := 1; n <= api.MaxNodes; n++ {
		for i, e := range mayNotBe(n) {
			for m := 1; m <= api.MaxNodes; m++ {
				if May(e, m) || May(emptyLists(e), m) {
					t.Errorf("P8.1: May of the %d-th wrong one, %v, for %d is true", i, e, m)
				}
			}
		}
	}
}

func TestMayNotForSuchACount(t *testing.T) {
	for n := 1; n <= api.MaxNodes; n++ {
		for _, m := range wrongCounts() {
			for _, e := range append(mayBe(n), mayNotBe(n)...) {
				if May(e, m) {
					t.Errorf("P8.1: May(%v, %d) is true", e, m)
				}
			}
		}
	}
	for _, m := range []int{0, api.MaxNodes + 1, 20, 255, 256} {
		for _, e := range []api.Entry{base(filled(m, 3), filled(m, 3)), mark(filled(m, 3)...)} {
			if May(e, m) {
				t.Errorf("P8.1: May of %d numbers for as many origins is true", m)
			}
		}
	}
}

// TestMayForAnotherCount: vectors are of just as many numbers as there are origins, a record's origin is below that.
func TestMayForAnotherCount(t *testing.T) {
	for n := 1; n <= api.MaxNodes; n++ {
		for m := 1; m <= api.MaxNodes; m++ {
			if May(base(filled(n, 3), filled(n, 3)), m) != (n == m) || May(mark(filled(n, 3)...), m) != (n == m) {
				t.Errorf("P8.1: May of %d numbers for %d", n, m)
			}
			if May(one(rec(n-1, 1, 0, 0, "")), m) != (n-1 < m) {
				t.Errorf("P8.1: May of a record of origin %d for %d", n-1, m)
			}
		}
	}
}

func TestLayWrittenOut(t *testing.T) {
	for _, x := range []struct {
		e    api.Entry
		want []byte
	}{
		{base([]int{3, 258}, []int{3, 1}), []byte{71, 1, 0, 10, 2, 0, 3, 1, 2, 2, 0, 3, 0, 1, 250, 67, 170, 107, 186, 34, 250, 187}},
		{one(rec(1, 3, 4, 5, "xy")), []byte{71, 2, 0, 14, 1, 0, 3, 0, 0, 0, 0, 0, 4, 0, 5, 2, 'x', 'y', 241, 214, 222, 246, 191, 204, 201, 76}},
		{mark(4, 5, 1023), []byte{71, 3, 0, 7, 3, 0, 4, 0, 5, 3, 255, 17, 21, 126, 169, 14, 60, 75, 174}},
	} {
		if got, e := Lay(x.e); !bytes.Equal(got, x.want) || e != api.OK {
			t.Errorf("P8.1: Lay(%v): %v, %d", x.e, got, e)
		}
	}
}

func TestLay(t *testing.T) {
	for n := 1; n <= api.MaxNodes; n++ {
		for _, x := range mayBe(n) {
			if got, e := Lay(x); !bytes.Equal(got, laid(x)) || e != api.OK {
				t.Errorf("P8.1: Lay(%v): %v, %d", x, got, e)
			}
			if got, e := Lay(emptyLists(x)); !bytes.Equal(got, laid(x)) || e != api.OK {
				t.Errorf("P8.1: Lay(%v), with lists that are empty and not nil: %v, %d", x, got, e)
			}
		}
	}
}

func TestLayRefuses(t *testing.T) {
	wrong := []api.Entry{mark(filled(api.MaxNodes+1, 3)...), base(filled(api.MaxNodes+1, 3), filled(api.MaxNodes+1, 3)), mark(filled(256, 0)...), mark(filled(257, 0)...), mark(filled(40000, 0)...)}
	for n := 1; n <= api.MaxNodes; n++ {
		wrong = append(wrong, mayNotBe(n)...)
	}
	for _, x := range wrong {
		for _, form := range []api.Entry{x, emptyLists(x)} {
			if got, e := Lay(form); got != nil || e != api.ErrArg {
				t.Errorf("P8.1: Lay of an entry that may not be, of kind %d, of %d and %d numbers, %v: %v, %d", x.Kind, len(x.V), len(x.W), x.Record, got, e)
			}
		}
	}
}

func TestReadNothing(t *testing.T) {
	for n := 1; n <= api.MaxNodes; n++ {
		reads(t, "nil", nil, n, nil, 0)
		reads(t, "no byte", []byte{}, n, nil, 0)
	}
}

// TestThereAndBack: what Lay answers, one behind the other, is read again.
func TestThereAndBack(t *testing.T) {
	for n := 1; n <= api.MaxNodes; n++ {
		for _, first := range mayBe(n) {
			if first.Kind != api.FrameBase {
				continue
			}
			whole := []api.Entry{first}
			for _, e := range mayBe(n) {
				if e.Kind != api.FrameBase {
					whole = append(whole, e)
				}
			}
			var b []byte
			for _, e := range whole {
				x, _ := Lay(e)
				b = append(b, x...)
			}
			reads(t, "all that may be", b, n, whole, len(b))
			reads(t, "a base alone", laid(first), n, whole[:1], len(laid(first)))
			reads(t, "a base twice", allLaid(first, first), n, whole[:1], len(laid(first)))
		}
	}
}

// TestReadOthersAreZero: the fields that an entry's kind does not name.
func TestReadOthersAreZero(t *testing.T) {
	got, _ := Read(allLaid(base([]int{3, 2}, []int{1, 1}), one(rec(1, 3, 4, 5, "x")), mark(2, 2), one(rec(0, 4, 4, 6, ""))), 2)
	if len(got) != 4 {
		t.Fatalf("P8.1: Read: %v", got)
	}
	if got[0].Record != (api.Record{}) || got[2].Record != (api.Record{}) || len(got[2].V) != 0 {
		t.Errorf("R2: Read: %v", got)
	}
	for _, e := range []api.Entry{got[1], got[3]} {
		if len(e.V) != 0 || len(e.W) != 0 {
			t.Errorf("R2: Read of a record: %v", e)
		}
	}
}

func TestReadForAnotherCount(t *testing.T) {
	for n := 1; n <= api.MaxNodes; n++ {
		first, m, r := base(filled(n, 9), filled(n, 1)), mark(filled(n, 2)...), one(rec(n-1, 1, 7, 0, "a"))
		b := allLaid(first, m, r)
		for k := 1; k <= api.MaxNodes; k++ {
			if k == n {
				reads(t, "its own count", b, k, []api.Entry{first, m, r}, len(b))
				continue
			}
			reads(t, "another count", b, k, nil, 0)
			stops(t, "a mark for another count", k, laid(m))
			if n > k {
				stops(t, "a record of an origin that is not", k, laid(r))
			}
		}
		for _, k := range wrongCounts() {
			reads(t, "a count that may not be", b, k, nil, 0)
			reads(t, "nothing, of a count that may not be", nil, k, nil, 0)
		}
	}
	for _, k := range []int{0, 9, 255} {
		first := base(filled(k, 0), filled(k, 0))
		reads(t, "as many origins as may not be", allLaid(first, one(rec(0, 1, 0, 0, "")), mark(filled(k, 0)...)), k, nil, 0)
	}
}

func TestReadBeginsWithABase(t *testing.T) {
	first, r, m := base([]int{3, 2}, []int{1, 1}), one(rec(1, 3, 4, 0, "x")), mark(2, 2)
	for why, b := range map[string][]byte{
		"a record alone":        laid(r),
		"a record, then a base": allLaid(r, first, m),
		"a mark alone":          laid(m),
		"a mark, then a base":   allLaid(m, first, r),
		"a byte, then a base":   append([]byte{0}, laid(first)...),
		"a 71, then a base":     append([]byte{71}, laid(first)...),
		"no frame":              []byte("no frame at all, of some length"),
		"zeros":                 make([]byte, 100),
		"a base cut off ahead":  laid(first)[1:],
		"a frame of kind 4":     append(sealed(4, nil), laid(first)...),
		"a base of no numbers":  append(sealed(1, []byte{0, 0}), laid(r)...),
		"a base of nothing":     append(sealed(1, nil), laid(r)...),
	} {
		reads(t, why, b, 2, nil, 0)
	}
}

func TestReadOneBaseOnly(t *testing.T) {
	first, other, r, m := base([]int{3, 2}, []int{1, 1}), base([]int{4, 4}, []int{4, 4}), one(rec(1, 3, 4, 0, "x")), mark(2, 2)
	for _, whole := range [][]api.Entry{{first}, {first, r}, {first, m}, {first, r, m, r}, {other, m, m}} {
		b := allLaid(whole...)
		for _, second := range []api.Entry{first, other} {
			reads(t, "a second base at the end", slices.Concat(b, laid(second)), 2, whole, len(b))
			reads(t, "a second base between", slices.Concat(b, allLaid(second, r, m)), 2, whole, len(b))
		}
	}
}

func TestReadOtherKinds(t *testing.T) {
	for kind := range 256 {
		if kind >= api.FrameBase && kind <= api.FrameMark {
			continue
		}
		for _, held := range [][]byte{nil, numbers(2, 2), slices.Concat(numbers(2, 2), numbers(1, 1)), held(rec(0, 1, 0, 0, "a"))} {
			stops(t, "a frame of another kind", 2, sealed(byte(kind), held))
			reads(t, "a frame of another kind first", sealed(byte(kind), held), 2, nil, 0)
		}
	}
}

// TestReadKindsChanged: what a frame of one kind holds, in a frame of another.
func TestReadKindsChanged(t *testing.T) {
	vectors, r, w := slices.Concat(numbers(3, 2), numbers(1, 1)), held(rec(1, 3, 4, 0, "x")), numbers(2, 2)
	for _, x := range []struct {
		kind byte
		held []byte
	}{{1, r}, {1, w}, {2, vectors}, {2, w}, {3, vectors}, {3, r}} {
		stops(t, "what another kind holds", 2, sealed(x.kind, x.held))
		reads(t, "what another kind holds, first", sealed(x.kind, x.held), 2, nil, 0)
	}
}

// TestReadFewerOrMoreBytes: a whole frame that holds an entry's bytes but for some at the end, or more than these.
func TestReadFewerOrMoreBytes(t *testing.T) {
	for n := 1; n <= api.MaxNodes; n++ {
		for _, e := range mayBe(n) {
			whole := laid(e)
			inner := whole[4 : len(whole)-8]
			var odd [][]byte
			for cut := range inner {
				odd = append(odd, inner[:cut])
			}
			for _, more := range []string{"\x00", "\x01", "\xff", "\x00\x00", "G", strings.Repeat("\x00", 200), string(inner), string(whole)} {
				odd = append(odd, slices.Concat(inner, []byte(more)))
			}
			for _, held := range odd {
				if e.Kind == api.FrameBase {
					reads(t, "a base of fewer or more bytes", sealed(1, held), n, nil, 0)
				} else {
					stops(t, "fewer or more bytes", n, sealed(byte(e.Kind), held))
				}
			}
		}
	}
}

// TestReadLengthsThatLie: a vector whose first byte tells another length than it has.
func TestReadLengthsThatLie(t *testing.T) {
	right := numbers(3, 2, 1)
	for length := range 256 {
		lie := slices.Concat([]byte{byte(length)}, right[1:])
		if length == 3 {
			continue
		}
		stops(t, "a mark's length", 3, sealed(3, lie))
		reads(t, "the first vector's length", sealed(1, slices.Concat(lie, right)), 3, nil, 0)
		reads(t, "the second vector's length", sealed(1, slices.Concat(right, lie)), 3, nil, 0)
	}
	reads(t, "vectors that share their bytes unlike", sealed(1, slices.Concat(numbers(3, 2), numbers(1, 1, 0, 0))), 3, nil, 0)
	reads(t, "vectors that share their bytes unlike", sealed(1, slices.Concat(numbers(3, 2, 2, 2), numbers(1, 1))), 3, nil, 0)
	for _, long := range []int{9, 127, 128, 255} {
		stops(t, "a long vector", 3, sealed(3, numbers(filled(long, 0)...)))
		reads(t, "long vectors", sealed(1, slices.Concat(numbers(filled(long, 0)...), numbers(filled(long, 0)...))), 3, nil, 0)
	}
	stops(t, "a frame that holds as much as may be", 3, sealed(3, slices.Concat(right, make([]byte, 65535-len(right)))))
}

// TestReadEntriesThatMayNotBe: frames that are whole, of entries that may not be, as far as bytes can tell them.
func TestReadEntriesThatMayNotBe(t *testing.T) {
	for n := 1; n <= api.MaxNodes; n++ {
		for i := range n {
			for _, x := range []int{api.MaxSeq + 1, api.MaxSeq + 257, 1 << 15, 65535} {
				stops(t, "a mark with too great a number", n, laid(mark(with(filled(n, 2), i, x)...)))
				reads(t, "a base with too great a number in V", laid(base(with(filled(n, 2), i, x), filled(n, 2))), n, nil, 0)
				reads(t, "a base with too great a number in W", laid(base(filled(n, 2), with(filled(n, 2), i, x))), n, nil, 0)
				reads(t, "a base with too great a number in both", laid(base(with(filled(n, 2), i, x), with(filled(n, 2), i, x))), n, nil, 0)
			}
			reads(t, "a base with W above V", laid(base(filled(n, 2), with(filled(n, 2), i, 3))), n, nil, 0)
			reads(t, "a base with W above V, else below", laid(base(with(filled(n, 2), i, 0), with(filled(n, 0), i, 1))), n, nil, 0)
		}
		for _, r := range []api.Record{
			{}, rec(n, 1, 0, 0, ""), rec(api.MaxNodes, 1, 0, 0, ""), rec(255, 1, 0, 0, ""), rec(0, 0, 0, 0, "a"), rec(0, api.MaxSeq+1, 0, 0, ""), rec(0, 65535, 0, 0, ""),
			rec(0, 1, api.MaxWall+1, 0, ""), rec(0, 1, 1<<48-1, 0, ""), rec(0, 1, 0, 0, strings.Repeat("x", api.MaxText+1)), rec(0, 1, 0, 0, "\xff"), rec(0, 1, 0, 0, "a\xc3"),
		} {
			stops(t, "a record that may not be", n, laid(one(r)))
		}
	}
}

// TestReadTorn: of bytes that are cut at each place those entries are read that are whole ahead of it.
func TestReadTorn(t *testing.T) {
	entries := []api.Entry{base([]int{3, 2}, []int{1, 1}), one(rec(1, 3, 4, 0, "x")), mark(2, 2), one(rec(0, 4, 5, 6, "")), one(rec(0, 5, 6, 7, "G\x01\x00\x00")), mark(3, 3)}
	var ends []int
	for i := range entries {
		ends = append(ends, len(allLaid(entries[:i+1]...)))
	}
	whole := allLaid(entries...)
	many, end := 0, 0
	for cut := range len(whole) + 1 {
		if many < len(ends) && cut == ends[many] {
			end = ends[many]
			many++
		}
		torn := whole[:cut]
		reads(t, "torn", slices.Clone(torn), 2, entries[:many], end)
		reads(t, "torn, the rest in its spare room", torn, 2, entries[:many], end)
		reads(t, "torn, zeros behind", slices.Concat(torn, make([]byte, 300)), 2, entries[:many], end)
		reads(t, "torn, text behind", slices.Concat(torn, []byte("no frame, and as long as one could be")), 2, entries[:many], end)
		if cut != end {
			reads(t, "torn, then begun anew", slices.Concat(torn, whole), 2, entries[:many], end)
		}
	}
}

// TestReadSpoilt: a frame of which one byte is another one, and all behind it, is not read.
func TestReadSpoilt(t *testing.T) {
	entries := []api.Entry{base([]int{3, 2}, []int{1, 1}), one(rec(1, 3, 4, 0, "x")), mark(2, 2)}
	whole := allLaid(entries...)
	for i := range whole {
		many := 0
		for len(allLaid(entries[:many+1]...)) <= i {
			many++
		}
		for _, by := range []byte{1, 2, 4, 128, 255} {
			spoilt := slices.Clone(whole)
			spoilt[i] ^= by
			reads(t, "spoilt", spoilt, 2, entries[:many], len(allLaid(entries[:many]...)))
		}
	}
}

func TestReadSomethingBehind(t *testing.T) {
	first, r := base([]int{3, 2}, []int{1, 1}), one(rec(1, 3, 4, 0, "x"))
	b := allLaid(first, r)
	for _, behind := range []string{"\x00", "G", "GG", "G\x02", "G\x02\x00\x00", "text", strings.Repeat("\x00", 64), strings.Repeat("G", 64), string(laid(r)[1:])} {
		all := slices.Concat(b, []byte(behind))
		reads(t, "something behind", all, 2, []api.Entry{first, r}, len(b))
		reads(t, "something behind, and a whole one", slices.Concat(all, laid(r)), 2, []api.Entry{first, r}, len(b))
	}
}

// TestReadOrderIsFree: neither that records follow V and W, nor that marks rise, is asked of a segment.
func TestReadOrderIsFree(t *testing.T) {
	entries := []api.Entry{
		base([]int{3, 2}, []int{3, 1}), one(rec(0, 900, 4, 0, "x")), one(rec(0, 1, 3, 0, "x")), one(rec(0, 1, 3, 0, "x")), one(rec(0, 1, 2, 9, "y")),
		mark(7, 7), mark(0, 0), mark(0, 0), mark(api.MaxSeq, 0), one(rec(1, 1, 0, 0, "")),
	}
	b := allLaid(entries...)
	reads(t, "any order", b, 2, entries, len(b))
}

func TestReadMany(t *testing.T) {
	entries := []api.Entry{base(filled(8, 9), filled(8, 1))}
	for i := range 20000 {
		entries = append(entries, one(rec(i%8, 1+i%1023, i, i%65536, "to be")), mark(with(filled(8, 2), i%8, i%1024)...))
	}
	b := allLaid(entries...)
	reads(t, "many", b, 8, entries, len(b))
	last := len(laid(entries[len(entries)-1]))
	reads(t, "many, torn", b[:len(b)-1], 8, entries[:len(entries)-1], len(b)-last)
}

// TestReadAnything: whatever bytes there are, what is read lays itself into the bytes it was read from.
func TestReadAnything(t *testing.T) {
	source := rand.New(rand.NewPCG(8, 1))
	pieces := [][]byte{{71}, {0}, {71, 1, 0, 2}, numbers(3, 2), sealed(1, nil), sealed(2, []byte("no record")), sealed(9, nil)}
	for _, e := range mayBe(2) {
		pieces = append(pieces, laid(e), laid(e))
	}
	for range 20000 {
		b := laid(mayBe(2)[source.IntN(4)])
		for range source.IntN(6) {
			b = append(b, pieces[source.IntN(len(pieces))]...)
		}
		if source.IntN(3) == 0 {
			b[source.IntN(len(b))] ^= byte(1 + source.IntN(255))
		}
		n := 1 + source.IntN(3)
		got, end := Read(b, n)
		if !bytes.Equal(allLaid(got...), b[:end]) {
			t.Fatalf("P8.1: Read of %v for %d: %v, %d", b, n, got, end)
		}
		for i, e := range got {
			if !May(e, n) || (i == 0) != (e.Kind == api.FrameBase) {
				t.Fatalf("P8.1: Read of %v for %d: %v", b, n, got)
			}
		}
	}
}

func TestSame(t *testing.T) {
	e := api.Entry{Kind: 1, V: []int{3, 2}, W: []int{1, 0}, Record: rec(2, 3, 4, 5, "a")}
	if again := (api.Entry{Kind: 1, V: []int{3, 2}, W: []int{1, 0}, Record: rec(2, 3, 4, 5, strings.Clone("a"))}); !Same(e, again) || !Same(e, e) {
		t.Error("P8.1: Same of equal entries is false")
	}
	for i, part := range []func(*api.Entry){
		func(e *api.Entry) { e.Kind = 2 }, func(e *api.Entry) { e.Kind = -1 }, func(e *api.Entry) { e.Kind = 257 },
		func(e *api.Entry) { e.V = []int{4, 2} }, func(e *api.Entry) { e.V = []int{3, 1} }, func(e *api.Entry) { e.V = []int{2, 3} },
		func(e *api.Entry) { e.V = []int{3} }, func(e *api.Entry) { e.V = []int{3, 2, 0} }, func(e *api.Entry) { e.V = nil }, func(e *api.Entry) { e.V = []int{} },
		func(e *api.Entry) { e.W = []int{0, 0} }, func(e *api.Entry) { e.W = []int{1, 1} }, func(e *api.Entry) { e.W = []int{0, 1} },
		func(e *api.Entry) { e.W = []int{1} }, func(e *api.Entry) { e.W = []int{1, 0, 0} }, func(e *api.Entry) { e.W = nil }, func(e *api.Entry) { e.W = []int{} },
		func(e *api.Entry) { e.V, e.W = e.W, e.V },
		func(e *api.Entry) { e.Origin = 1 }, func(e *api.Entry) { e.Seq = 4 }, func(e *api.Entry) { e.Wall = 5 }, func(e *api.Entry) { e.Count = 4 },
		func(e *api.Entry) { e.Text = "A" }, func(e *api.Entry) { e.Text = "" }, func(e *api.Entry) { e.Text = "ab" }, func(e *api.Entry) { e.Record = api.Record{} },
		func(e *api.Entry) { *e = api.Entry{} },
	} {
		other := e
		part(&other)
		if Same(e, other) || Same(other, e) {
			t.Errorf("P8.1: Same of entries that part, the %d-th, is true", i)
		}
	}
}

func TestSameOfListsThatAreEmpty(t *testing.T) {
	lists := [][]int{nil, {}, make([]int, 0, 4)}
	for _, a := range lists {
		for _, b := range lists {
			for _, r := range []api.Record{{}, rec(1, 2, 3, 4, "a")} {
				if !Same(api.Entry{Kind: 2, V: a, W: b, Record: r}, api.Entry{Kind: 2, V: b, W: a, Record: r}) {
					t.Errorf("P8.1: Same of lists %#v and %#v is false", a, b)
				}
			}
			if Same(api.Entry{V: a, W: []int{0}}, api.Entry{V: b}) || Same(api.Entry{V: a}, api.Entry{V: []int{0}, W: b}) {
				t.Errorf("P8.1: Same of a list %#v and a zero is true", a)
			}
		}
	}
}

// TestSameOfAllThatMayBe: an entry is the same as itself alone, and so are the bytes.
func TestSameOfAllThatMayBe(t *testing.T) {
	entries := append(mayBe(1), mayBe(3)...)
	for _, a := range entries {
		for _, b := range entries {
			if Same(a, b) != alike(a, b) || Same(a, b) != bytes.Equal(laid(a), laid(b)) {
				t.Errorf("P8.1: Same(%v, %v): %v", a, b, Same(a, b))
			}
		}
	}
}

// roomy answers v with room behind it that holds numbers.
func roomy(v []int) []int {
	return append(slices.Clone(v), 7, 7, 7)[:len(v)]
}

// room is all that a list has, with what stands behind it.
func room(v []int) []int {
	return slices.Clone(v[:cap(v)])
}

func TestEntriesAreLeftAsTheyWere(t *testing.T) {
	for _, e := range slices.Concat(mayBe(3), mayNotBe(3)) {
		e.V, e.W = roomy(e.V), roomy(e.W)
		v, w := room(e.V), room(e.W)
		May(e, 3)
		May(e, 2)
		Same(e, e)
		Same(e, api.Entry{})
		b, _ := Lay(e)
		other, _ := Lay(e)
		kept := slices.Clone(other)
		scribble(b)
		if !slices.Equal(v, room(e.V)) || !slices.Equal(w, room(e.W)) {
			t.Errorf("R4: an entry was changed: %v, %v to %v, %v", v, w, room(e.V), room(e.W))
		}
		clear(e.V[:cap(e.V)])
		clear(e.W[:cap(e.W)])
		if !bytes.Equal(other, kept) {
			t.Errorf("R4: what Lay answered changed with its entry, or with another answer: %v to %v", kept, other)
		}
	}
}

// scribble changes bytes, and their spare room.
func scribble(b []byte) {
	b = b[:cap(b)]
	for i := range b {
		b[i] ^= 255
	}
}

func TestReadLeavesItsBytes(t *testing.T) {
	entries := []api.Entry{base([]int{3, 2}, []int{1, 1}), one(rec(1, 3, 4, 0, "to be")), mark(2, 2), mark(2, 2), one(rec(1, 4, 5, 0, "or"))}
	whole := allLaid(entries...)
	all := slices.Concat(whole, []byte("room behind it"))
	before := slices.Clone(all)
	got, _ := Read(all[:len(whole)], 2)
	other, _ := Read(all[:len(whole)], 2)
	for i := range got {
		scribbleEntry(&got[i])
	}
	_ = append(got, api.Entry{})
	if !bytes.Equal(all, before) {
		t.Error("R4: Read changed its bytes, or shares them")
	}
	if !slices.EqualFunc(other, entries, alike) {
		t.Errorf("R4: two answers of Read share memory: %v", other)
	}
	scribble(all)
	if !slices.EqualFunc(other, entries, alike) {
		t.Errorf("R4: what Read answered changed with its bytes: %v", other)
	}
}

// scribbleEntry changes all that an entry has, its lists' spare room too.
func scribbleEntry(e *api.Entry) {
	for _, list := range [][]int{e.V, e.W} {
		list = list[:cap(list)]
		for i := range list {
			list[i] = -9
		}
	}
	e.Record = api.Record{}
}

// TestListsOfOneAnswer: a change of one list of an answer, its spare room too, changes no other one.
func TestListsOfOneAnswer(t *testing.T) {
	entries := []api.Entry{base([]int{3, 2, 5}, []int{3, 2, 5}), mark(3, 2, 5), mark(3, 2, 5), mark(3, 2, 5)}
	for i := range entries {
		for _, isV := range []bool{true, false} {
			got, _ := Read(allLaid(entries...), 3)
			want := slices.Clone(entries)
			list := got[i].W
			if isV {
				list = got[i].V
				want[i].V = filled(len(list), -9)
			} else {
				want[i].W = filled(len(list), -9)
			}
			list = list[:cap(list)]
			for k := range list {
				list[k] = -9
			}
			if !slices.EqualFunc(got, want, alike) {
				t.Errorf("R4: two lists of one answer share memory: %v, not %v", got, want)
			}
		}
	}
}

func TestManyAtOneTime(t *testing.T) {
	entries := []api.Entry{base([]int{3, 2}, []int{1, 1}), one(rec(1, 3, 4, 0, "to be")), mark(2, 2)}
	whole := allLaid(entries...)
	var wait sync.WaitGroup
	for range 8 {
		wait.Go(func() {
			for range 100 {
				got, end := Read(whole, 2)
				b, e := Lay(entries[1])
				if !slices.EqualFunc(got, entries, Same) || end != len(whole) || !bytes.Equal(b, laid(entries[1])) || e != api.OK || !May(entries[2], 2) {
					t.Error("R5: unlike answers at one time")
				}
			}
		})
	}
	wait.Wait()
}
