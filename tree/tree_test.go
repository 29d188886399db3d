package tree

import (
	"encoding/binary"
	"hash/fnv"
	"maps"
	"math"
	"math/rand/v2"
	"slices"
	"strings"
	"sync"
	"testing"

	"grapevine/api"
)

// key, rec, some and records are short forms of a Key, a record, Keys and records.
func key(origin, seq int) api.Key { return api.Key{Origin: origin, Seq: seq} }
func rec(k api.Key, text string) api.Record {
	return api.Record{Key: k, Stamp: api.Stamp{Wall: 7}, Text: text}
}
func some(ks ...api.Key) []api.Key          { return ks }
func records(rs ...api.Record) []api.Record { return rs }

// Keys, the lesser one first.
var (
	a        = key(0, 1)
	b        = key(0, 3)
	c        = key(1, 1)
	d        = key(2, 900)
	e        = key(7, 1023)
	least    = key(math.MinInt, math.MinInt)
	greatest = key(math.MaxInt, math.MaxInt)
)

// ordinary are records of several origins, two of which one range of four numbers has.
func ordinary() []api.Record {
	return records(rec(a, "To be"), rec(b, ""), rec(c, "To be"), rec(d, "日 or"), rec(e, "not"))
}

// zeros are two records under the Key a, the digest of whose bytes is 0.
func zeros() (api.Record, api.Record) {
	return rec(a, "aaab \x02\x01\x03\x1d\x01\x03\x0c\x03\x04\x0f\x01\x00\x07\x0c\r\x01\x04\x00\x05\x01"),
		rec(a, "baaaa \x1e\x00\x0c\x1e\x02\x02\x05\x02\x04\x03\x06\x1c\x01\x06\x1e\x0e\x0f\x06\x02\x01")
}

// filled is a tree into which records were put, in one call.
func filled(rs ...api.Record) *Tree {
	x := New()
	x.Put(rs...)
	return x
}

// bytesOf are the bytes of a record that may be, written down apart from the program's own way.
func bytesOf(r api.Record) []byte {
	bs := []byte{byte(r.Origin)}
	bs = binary.BigEndian.AppendUint16(bs, uint16(r.Seq))
	bs = binary.BigEndian.AppendUint64(bs, uint64(r.Wall)<<16|uint64(r.Count))
	return append(append(bs, byte(len(r.Text))), r.Text...)
}

// summed is the digest of bytes, told apart from the program's own way.
func summed(bs []byte) uint64 {
	h := fnv.New64a()
	h.Write(bs)
	return h.Sum64()
}

// together is the digest of digests, told apart from the program's own way.
func together(ds ...uint64) uint64 {
	if slices.Max(ds) == 0 {
		return 0
	}
	var bs []byte
	for _, d := range ds {
		bs = binary.BigEndian.AppendUint64(bs, d)
	}
	return summed(bs)
}

// length is how many numbers a range of a level has.
func length(level int) int {
	many := 1
	for range api.Depth - level {
		many *= api.Fan
	}
	return many
}

// digestOf is the digest of the range of a level that begins at a number, told by the records alone.
func digestOf(rs []api.Record, origin, level, begin int) uint64 {
	var in []api.Record
	for _, r := range rs {
		if r.Origin == origin && r.Seq >= begin && r.Seq < begin+length(level) {
			in = append(in, r)
		}
	}
	switch {
	case len(in) == 0:
		return 0
	case level == api.Depth:
		return summed(bytesOf(in[0]))
	}
	var parts []uint64
	for i := range api.Fan {
		parts = append(parts, digestOf(in, origin, level+1, begin+i*length(level+1)))
	}
	return together(parts...)
}

// has asks that a tree is one of just these records: all that it can be asked.
func has(t *testing.T, name string, x *Tree, rs ...api.Record) {
	t.Helper()
	if got := x.Len(); got != len(rs) {
		t.Errorf("P12.1: %s: Len is %d, not %d", name, got, len(rs))
	}
	hasRecords(t, name, x, rs)
	hasDigests(t, name, x, rs)
	likewise := slices.Clone(rs)
	slices.Reverse(likewise)
	if y := filled(likewise...); !Same(x, y) || !Same(y, x) || !Same(x, x) {
		t.Errorf("P12.1: %s: it is not the Same as one of %v", name, rs)
	}
}

// hasRecords asks for just these records by Get.
func hasRecords(t *testing.T, name string, x *Tree, rs []api.Record) {
	t.Helper()
	must := map[api.Key]api.Record{}
	asked := some(least, greatest, key(0, 0), key(-1, 1), key(api.MaxNodes, 1), key(0, api.MaxSeq+1), key(3, 3))
	for _, r := range rs {
		must[r.Key] = r
		asked = append(asked, r.Key, key(r.Origin+1, r.Seq), key(r.Origin-1, r.Seq), key(r.Origin, r.Seq+1), key(r.Origin, r.Seq-1), key(r.Origin, -r.Seq))
	}
	for _, k := range asked {
		want, known := must[k]
		if got, there := x.Get(k); got != want || there != known {
			t.Errorf("P12.1: %s: Get of %v is %v, %v, not %v, %v", name, k, got, there, want, known)
		}
	}
}

// hasDigests asks for the digests of just these records, of all ranges that there are, and for none of some that there are not.
func hasDigests(t *testing.T, name string, x *Tree, rs []api.Record) {
	t.Helper()
	var tops []uint64
	for origin := range api.MaxNodes {
		tops = append(tops, digestOf(rs, origin, 0, 0))
		for level := range api.Depth + 1 {
			many := length(0) / length(level)
			for i := range many {
				want := digestOf(rs, origin, level, i*length(level))
				if got, ok := x.Sum(origin, level, i); got != want || !ok {
					t.Errorf("P12.1: %s: Sum(%d, %d, %d) is %x, %v, not %x", name, origin, level, i, got, ok, want)
				}
			}
			for _, i := range []int{-1, many} {
				if got, ok := x.Sum(origin, level, i); got != 0 || ok {
					t.Errorf("P12.1: %s: Sum(%d, %d, %d) is %x, %v", name, origin, level, i, got, ok)
				}
			}
		}
	}
	if got, want := x.Root(), together(tops...); got != want {
		t.Errorf("P12.1: %s: Root is %x, not %x", name, got, want)
	}
}

func TestOfTheChapter(t *testing.T) {
	if got := New().Root(); got != 0 {
		t.Errorf("P12.1: Root of a new one is %x", got)
	}
	has(t, "new", New())
}

// TestDigestsWrittenOut holds digests against numbers that another program worked out.
func TestDigestsWrittenOut(t *testing.T) {
	x := filled(
		api.Record{Key: key(0, 1), Stamp: api.Stamp{Wall: 7}, Text: "a"},
		api.Record{Key: key(0, 3), Stamp: api.Stamp{Wall: 7, Count: 2}, Text: "To be, or"},
		api.Record{Key: key(0, 1023), Stamp: api.Stamp{Wall: api.MaxWall, Count: api.MaxCount}},
		api.Record{Key: key(7, 256), Text: "日"})
	for _, z := range []struct {
		origin, level, i int
		want             uint64
	}{
		{0, 5, 1, 0x3f2acd7cc45efe6b}, {0, 5, 3, 0x4b18555b9b0e49db}, {0, 5, 1023, 0xcb2d0d41d27dd7b2}, {7, 5, 256, 0xefcada149f80d4e2},
		{0, 4, 0, 0xca29fc3548959736}, {0, 3, 0, 0x1fc4d082068f0809}, {0, 2, 0, 0xf26403f36e9c10e4}, {0, 1, 0, 0x1b9ef4ef210ef8cf},
		{0, 4, 255, 0x66c9ece16eb73be7}, {0, 3, 63, 0x3b99e8c8cd8a7496}, {0, 2, 15, 0x7992f272ea2e1f74}, {0, 1, 3, 0x40d18e9ed97438b5},
		{7, 4, 64, 0xd4757bf97cf39ec3}, {7, 3, 16, 0x11a9c1db20895fc8}, {7, 2, 4, 0x77ea310bf436fdcf}, {7, 1, 1, 0xe5ce8b920f85ad0e},
		{0, 0, 0, 0x730c805dcc0698de}, {7, 0, 0, 0x5929353716998aac}, {3, 0, 0, 0}, {0, 5, 0, 0}, {0, 5, 2, 0}, {7, 4, 63, 0}, {7, 4, 65, 0}, {0, 1, 1, 0},
	} {
		if got, ok := x.Sum(z.origin, z.level, z.i); got != z.want || !ok {
			t.Errorf("P12.1: Sum(%d, %d, %d) is %x, %v, not %x", z.origin, z.level, z.i, got, ok, z.want)
		}
	}
	if got := x.Root(); got != 0xe19dff8bbd67e63c {
		t.Errorf("P12.1: Root is %x", got)
	}
}

func TestPutInAnyOrder(t *testing.T) {
	rs := ordinary()
	var orders func(n int)
	orders = func(n int) {
		if n == 1 {
			putInParts(t, rs)
		}
		for i := range n {
			rs[i], rs[n-1] = rs[n-1], rs[i]
			orders(n - 1)
			rs[i], rs[n-1] = rs[n-1], rs[i]
		}
	}
	orders(len(rs))
}

// putInParts puts records in one call, in two, and one by one.
func putInParts(t *testing.T, rs []api.Record) {
	t.Helper()
	x := New()
	if got := x.Put(rs...); got != len(rs) {
		t.Errorf("P12.1: Put of %v is %d", rs, got)
	}
	has(t, "put in one call", x, rs...)
	y := New()
	if first, then := y.Put(rs[:2]...), y.Put(rs[2:]...); first != 2 || then != len(rs)-2 {
		t.Errorf("P12.1: Put of %v in two calls is %d, %d", rs, first, then)
	}
	z := New()
	for i, r := range rs {
		if got := z.Put(r); got != 1 || z.Len() != i+1 {
			t.Errorf("P12.1: Put of %v alone is %d", r, got)
		}
	}
	if !Same(x, y) || !Same(x, z) || x.Root() != y.Root() || x.Root() != z.Root() {
		t.Errorf("P12.1: put in several calls: %v", rs)
	}
}

// TestEachNumberInItsRanges: of a record alone just those ranges have a digest that are not ahead of its number, nor behind it.
func TestEachNumberInItsRanges(t *testing.T) {
	for _, number := range []int{1, 2, 3, 4, 5, 15, 16, 17, 63, 64, 65, 255, 256, 257, 511, 512, 767, 768, 1019, 1020, 1022, 1023} {
		for _, origin := range []int{0, 3, api.MaxNodes - 1} {
			r := rec(key(origin, number), "a")
			x := filled(r)
			has(t, "one number", x, r)
			for level := range api.Depth + 1 {
				for i := range length(0) / length(level) {
					in := i*length(level) <= number && number < (i+1)*length(level)
					if got, _ := x.Sum(origin, level, i); (got != 0) != in {
						t.Errorf("P12.1: Sum(%d, %d, %d), of number %d alone, is %x", origin, level, i, number, got)
					}
				}
			}
		}
	}
}

func TestPutAtTheLimits(t *testing.T) {
	for _, r := range records(
		api.Record{Key: key(0, 1)}, api.Record{Key: e, Stamp: api.Stamp{Wall: api.MaxWall, Count: api.MaxCount}, Text: strings.Repeat("a", api.MaxText)},
		rec(key(api.MaxNodes-1, 1), ""), rec(key(0, api.MaxSeq), ""), api.Record{Key: d, Stamp: api.Stamp{Wall: api.MaxWall}}, api.Record{Key: d, Stamp: api.Stamp{Count: api.MaxCount}},
		rec(a, strings.Repeat("日", api.MaxText/3)), rec(a, "\x00"), rec(a, ""),
	) {
		x := New()
		if got := x.Put(r); got != 1 {
			t.Errorf("P12.1: Put of %v is %d", r, got)
		}
		has(t, "at a limit", x, r)
		if got := x.Drop(r.Key); got != 1 {
			t.Errorf("P12.1: Drop of %v is %d", r.Key, got)
		}
		has(t, "at a limit, dropped", x)
	}
}

// mayNotBe are records that may not be; some of them have a Key that may be.
func mayNotBe() []api.Record {
	var rs []api.Record
	for _, k := range some(key(-1, 1), key(api.MaxNodes, 1), key(0, 0), key(0, -1), key(0, api.MaxSeq+1), key(7, 1024), key(8, -1), least, greatest, key(0, math.MinInt), key(math.MaxInt, 1), key(1, -1023), key(256, 1), key(0, 1<<16+1)) {
		rs = append(rs, rec(k, "other"))
	}
	for _, s := range []api.Stamp{{Wall: -1}, {Count: -1}, {Wall: api.MaxWall + 1}, {Count: api.MaxCount + 1}, {Wall: math.MinInt}, {Count: math.MaxInt}, {Wall: 1 << 48}, {Count: 1 << 16}} {
		rs = append(rs, api.Record{Key: a, Stamp: s, Text: "other"})
	}
	for _, text := range []string{"\xff", "other \xc3", strings.Repeat("a", api.MaxText+1), strings.Repeat("a", 256), strings.Repeat("日", api.MaxText/3) + "a"} {
		rs = append(rs, rec(a, text))
	}
	return rs
}

func TestPutOfWhatMayNotBe(t *testing.T) {
	odd := mayNotBe()
	for _, r := range odd {
		x := New()
		if got := x.Put(r); got != 0 {
			t.Errorf("P12.1: Put of %v is %d", r, got)
		}
		has(t, "what may not be", x)
		// The others of the call are there, ahead of it and behind it.
		if got := x.Put(rec(b, "b"), r, rec(a, "a")); got != 2 {
			t.Errorf("P12.1: Put of %v among others is %d", r, got)
		}
		has(t, "what may not be, among others", x, rec(b, "b"), rec(a, "a"))
		if got := x.Put(r); got != 0 {
			t.Errorf("P12.1: Put of %v behind others is %d", r, got)
		}
		has(t, "what may not be, behind others", x, rec(b, "b"), rec(a, "a"))
		if got := x.Drop(r.Key); (got == 1) != (r.Key == a) {
			t.Errorf("P12.1: Drop of %v is %d", r.Key, got)
		}
	}
	x := filled(odd...)
	has(t, "all that may not be", x)
	if !Same(x, New()) {
		t.Error("P12.1: all that may not be")
	}
}

func TestPutOfWhatIsThere(t *testing.T) {
	rs := ordinary()
	x := filled(rs...)
	for _, r := range records(rs[0], rec(a, "other"), rec(a, ""), rec(b, "other"), rec(b, ""), rec(e, "other"), api.Record{Key: a, Stamp: api.Stamp{Wall: 900}, Text: "To be"}, api.Record{Key: a, Stamp: api.Stamp{Wall: 7, Count: 1}, Text: "To be"}, api.Record{Key: d}) {
		if got := x.Put(r); got != 0 {
			t.Errorf("P12.1: Put of %v, whose Key is there, is %d", r, got)
		}
		has(t, "a Key that is there", x, rs...)
	}
	if got := x.Put(rec(a, "other"), rec(c, "other"), rec(key(0, 2), "new"), rec(a, "another")); got != 1 {
		t.Errorf("P12.1: Put of one that is not there among others is %d", got)
	}
	has(t, "one that is not there among others", x, append(rs, rec(key(0, 2), "new"))...)
}

func TestHowManyArePut(t *testing.T) {
	for _, z := range []struct {
		name string
		put  []api.Record
		want int
		then []api.Record
	}{
		{"no record", nil, 0, nil},
		{"no record, of a list", records(), 0, nil},
		{"one Key twice", records(rec(a, "to"), rec(a, "be")), 1, records(rec(a, "to"))},
		{"one record twice", records(rec(a, "to"), rec(a, "to")), 1, records(rec(a, "to"))},
		{"one Key twice, with others", records(rec(c, "or"), rec(a, "to"), rec(b, "or"), rec(a, "be"), rec(c, "be")), 3, records(rec(a, "to"), rec(b, "or"), rec(c, "or"))},
		{"one Key twice, of which the first may not be", records(rec(a, "\xff"), rec(a, "be")), 1, records(rec(a, "be"))},
		{"one Key twice, of which the second may not be", records(rec(a, "to"), rec(a, "\xff")), 1, records(rec(a, "to"))},
		{"one text under several Keys", records(rec(a, "to"), rec(b, "to"), rec(key(1, 3), "to"), rec(key(1, 1), "to")), 4, records(rec(a, "to"), rec(b, "to"), rec(key(1, 3), "to"), rec(key(1, 1), "to"))},
		{"no origin's number", records(api.Record{}, api.Record{}), 0, nil},
	} {
		x := New()
		if got := x.Put(z.put...); got != z.want {
			t.Errorf("P12.1: Put, %s: %d", z.name, got)
		}
		has(t, "Put, "+z.name, x, z.then...)
		if got := x.Put(z.then...); got != 0 {
			t.Errorf("P12.1: Put again, %s: %d", z.name, got)
		}
		has(t, "Put again, "+z.name, x, z.then...)
	}
}

func TestDrop(t *testing.T) {
	rs := ordinary()
	for _, z := range []struct {
		name string
		ks   []api.Key
		want int
		left []api.Record
	}{
		{"no Key", nil, 0, rs},
		{"no Key, of a list", some(), 0, rs},
		{"the first one", some(a), 1, rs[1:]},
		{"the last one", some(e), 1, rs[:4]},
		{"one named twice", some(b, b), 1, records(rs[0], rs[2], rs[3], rs[4])},
		{"some, falling", some(e, c, a), 3, records(rs[1], rs[3])},
		{"some by turns", some(a, e, a, b, e), 3, rs[2:4]},
		{"one that is not there", some(key(0, 2)), 0, rs},
		{"some that are not there", some(key(1, 3), key(2, 1), key(3, 3)), 0, rs},
		{"the same numbers of other origins", some(key(1, 900), key(2, 1), key(6, 1023)), 0, rs},
		{"Keys of no record", some(least, greatest, key(0, 0), key(-1, 1), key(8, 1), key(0, 1024), key(0, -1), key(7, 1024)), 0, rs},
		{"one among others that are not there", some(least, key(0, 2), d, key(7, 7)), 1, records(rs[0], rs[1], rs[2], rs[4])},
		{"all", some(a, b, c, d, e), 5, nil},
		{"all twice, with others", some(e, a, greatest, d, b, c, c, b, d, a, e, key(3, 3)), 5, nil},
	} {
		x := filled(rs...)
		if got := x.Drop(z.ks...); got != z.want {
			t.Errorf("P12.1: Drop, %s: %d", z.name, got)
		}
		has(t, "Drop, "+z.name, x, z.left...)
		if got := x.Drop(z.ks...); got != 0 {
			t.Errorf("P12.1: Drop again, %s: %d", z.name, got)
		}
		has(t, "Drop again, "+z.name, x, z.left...)
	}
	x := New()
	if x.Drop() != 0 || x.Drop(a, b) != 0 {
		t.Error("P12.1: Drop of a new one")
	}
	has(t, "Drop of a new one", x)
}

func TestPutAgain(t *testing.T) {
	x := filled(rec(a, "to be"), rec(b, "be to"))
	for _, text := range []string{"other be", "", "to be", "be be to be", "..."} {
		if x.Drop(a) != 1 {
			t.Errorf("P12.1: Drop ahead of %q", text)
		}
		has(t, "dropped", x, rec(b, "be to"))
		if got := x.Put(rec(a, text)); got != 1 {
			t.Errorf("P12.1: Put again, of %q, is %d", text, got)
		}
		has(t, "put again", x, rec(a, text), rec(b, "be to"))
	}
}

// TestRangesThatThereAreNot: of an origin, a level or a number, to either side.
func TestRangesThatThereAreNot(t *testing.T) {
	far := []int{-1, -2, math.MinInt, math.MaxInt, math.MinInt32, math.MaxInt32, -1024, 1 << 16, 1 << 32, 1 << 62}
	for name, x := range map[string]*Tree{"new": New(), "filled": filled(ordinary()...), "none": nil} {
		none := func(origin, level, i int) {
			if got, ok := x.Sum(origin, level, i); got != 0 || ok {
				t.Errorf("P12.1: %s: Sum(%d, %d, %d) is %x, %v", name, origin, level, i, got, ok)
			}
		}
		for _, origin := range append(far, api.MaxNodes, api.MaxNodes+1) {
			none(origin, 0, 0)
			none(origin, api.Depth, 1)
			none(origin, origin, origin)
		}
		for _, level := range append(far, api.Depth+1, api.Depth+2) {
			none(0, level, 0)
			none(7, level, 1)
			none(0, level, level)
		}
		for level := range api.Depth + 1 {
			many := length(0) / length(level)
			for _, i := range append(far, many, many+1, many*api.Fan, many*api.Fan-1+api.Fan, -many) {
				for origin := range api.MaxNodes {
					none(origin, level, i)
				}
			}
		}
	}
}

// TestOriginsAreApart: what becomes of one origin's records changes no range of another one.
func TestOriginsAreApart(t *testing.T) {
	for origin := range api.MaxNodes {
		x := filled(ordinary()...)
		was := allSums(x)
		ks := some(key(origin, 2), key(origin, 500), key(origin, 1023), key(origin, 1))
		for _, k := range ks {
			x.Put(rec(k, "more"))
			othersStay(t, was, allSums(x), origin)
		}
		x.Drop(ks...)
		othersStay(t, was, allSums(x), origin)
	}
}

// allSums are the digests of all ranges, an origin's in each list.
func allSums(x *Tree) [][]uint64 {
	all := make([][]uint64, api.MaxNodes)
	for origin := range all {
		for level := range api.Depth + 1 {
			for i := range length(0) / length(level) {
				d, _ := x.Sum(origin, level, i)
				all[origin] = append(all[origin], d)
			}
		}
	}
	return all
}

// othersStay asks that the digests of all origins but one are what they were.
func othersStay(t *testing.T, was, are [][]uint64, but int) {
	t.Helper()
	for origin := range was {
		if origin != but && !slices.Equal(was[origin], are[origin]) {
			t.Errorf("P12.1: what became of origin %d changed ranges of origin %d", but, origin)
		}
	}
}

// TestOrderOfParts: a digest hangs on which part has which, and Root on which origin.
func TestOrderOfParts(t *testing.T) {
	one, other := rec(key(0, 4), "a"), rec(key(0, 6), "b")
	var pair [4]uint64
	pair[0], pair[2] = summed(bytesOf(one)), summed(bytesOf(other))
	if got, _ := filled(other, one).Sum(0, 4, 1); got != together(pair[:]...) {
		t.Errorf("P12.1: Sum of the first and the third part is %x", got)
	}
	roots := map[uint64]int{}
	for origin := range api.MaxNodes {
		for _, number := range []int{1, 2, 3, 5, 64, 1023} {
			roots[filled(rec(key(origin, number), "a")).Root()]++
		}
	}
	if len(roots) != 6*api.MaxNodes {
		t.Errorf("P12.1: %d Roots of so many trees", len(roots))
	}
}

func TestSame(t *testing.T) {
	dropped := filled(rec(c, "be"), rec(a, "to be"), rec(b, ""))
	dropped.Drop(c)
	again := filled(rec(a, "other words"), rec(b, "other"))
	again.Drop(a, b)
	again.Put(rec(b, ""), rec(a, "to be"))
	emptied := filled(rec(a, "to be"))
	emptied.Drop(a)
	refused := filled(rec(a, "to be"), rec(a, "be to"), rec(b, ""), rec(key(9, 9), "be"))
	ab := filled(rec(a, "to be"), rec(b, ""))
	for _, z := range []struct {
		name string
		x, y *Tree
		want bool
	}{
		{"new ones", New(), New(), true},
		{"itself", ab, ab, true},
		{"in another order", ab, filled(rec(b, ""), rec(a, "to be")), true},
		{"with another one dropped", ab, dropped, true},
		{"with others dropped, and put again", ab, again, true},
		{"with others refused", ab, refused, true},
		{"emptied", New(), emptied, true},
		{"another wall time", ab, filled(api.Record{Key: a, Stamp: api.Stamp{Wall: 8}, Text: "to be"}, rec(b, "")), false},
		{"another count", ab, filled(api.Record{Key: a, Stamp: api.Stamp{Wall: 7, Count: 1}, Text: "to be"}, rec(b, "")), false},
		{"another text", ab, filled(rec(a, "to bE"), rec(b, "")), false},
		{"a longer text", ab, filled(rec(a, "to be"), rec(b, "a")), false},
		{"a Key more", ab, filled(rec(a, "to be"), rec(b, ""), rec(c, "do")), false},
		{"a Key without text less", ab, filled(rec(a, "to be")), false},
		{"another Key", ab, filled(rec(a, "to be"), rec(key(0, 2), "")), false},
		{"another origin", ab, filled(rec(a, "to be"), rec(key(1, 3), "")), false},
		{"texts by turns", ab, filled(rec(a, ""), rec(b, "to be")), false},
		{"one Key, and none", New(), filled(api.Record{Key: a}), false},
		{"no tree", ab, nil, false},
		{"no tree, and a new one", New(), nil, false},
		{"no tree, twice", nil, nil, false},
	} {
		if Same(z.x, z.y) != z.want || Same(z.y, z.x) != z.want {
			t.Errorf("P12.1: Same, %s: not %v", z.name, z.want)
		}
		if z.x == nil || z.y == nil {
			continue
		}
		if slices.EqualFunc(allSums(z.x), allSums(z.y), slices.Equal[[]uint64]) != z.want || (z.x.Root() == z.y.Root()) != z.want {
			t.Errorf("P12.1: digests, %s: the same is not %v", z.name, z.want)
		}
	}
}

// TestDigestZero: a record is there, whatever the digest of its bytes is, and unlike ones are not the same for having one digest.
func TestDigestZero(t *testing.T) {
	one, other := zeros()
	if summed(bytesOf(one)) != 0 || summed(bytesOf(other)) != 0 || one == other {
		t.Fatal("these records are not of digest 0")
	}
	x := New()
	if x.Put(one, other) != 1 || x.Put(other) != 0 || x.Put(one) != 0 || x.Root() != 0 {
		t.Error("P12.1: Put of one of digest 0")
	}
	has(t, "of digest 0", x, one)
	if y := filled(other); Same(x, y) || Same(x, New()) || Same(New(), x) || x.Root() != y.Root() {
		t.Error("P12.1: Same of one of digest 0")
	}
	x.Put(rec(b, "b"), rec(e, "e"))
	has(t, "of digest 0, with others", x, one, rec(b, "b"), rec(e, "e"))
	if y := filled(other, rec(b, "b"), rec(e, "e")); Same(x, y) || x.Root() != y.Root() {
		t.Error("P12.1: Same of one of digest 0, with others")
	}
	if x.Drop(a, a) != 1 || x.Drop(a) != 0 || x.Put(other) != 1 {
		t.Error("P12.1: Drop of one of digest 0")
	}
	has(t, "of digest 0, another one", x, other, rec(b, "b"), rec(e, "e"))
}

func TestNoTree(t *testing.T) {
	var x *Tree
	if x.Put() != 0 || x.Put(rec(a, "a")) != 0 || x.Put(mayNotBe()...) != 0 || x.Drop() != 0 || x.Drop(a, least) != 0 || x.Len() != 0 || x.Root() != 0 {
		t.Error("R3: calls on no tree")
	}
	for _, k := range some(a, e, least, greatest, key(0, 0)) {
		if got, there := x.Get(k); got != (api.Record{}) || there {
			t.Errorf("R3: Get of %v, of no tree, is %v, %v", k, got, there)
		}
	}
	for level := range api.Depth + 1 {
		if got, ok := x.Sum(0, level, 0); got != 0 || ok {
			t.Errorf("R3: Sum at level %d of no tree is %x, %v", level, got, ok)
		}
	}
}

// TestPutKeepsNothing: the records that are handed in stay as they are, those in the room behind them too, and are no part of the tree.
func TestPutKeepsNothing(t *testing.T) {
	room := records(rec(e, "e"), rec(a, "a"), rec(a, "other"), rec(key(9, 9), ""), rec(b, "b"), rec(c, "c"), rec(d, "d"))
	was := slices.Clone(room)
	x := New()
	x.Put(room[:4]...)
	if !slices.Equal(room, was) {
		t.Errorf("R4: Put changed %v to %v", was, room)
	}
	for i := range room {
		room[i] = rec(key(3, 3), "changed")
	}
	has(t, "changed records", x, was[0], was[1])
	x.Put(was[:5]...)
	if has(t, "changed records, and more", x, was[0], was[1], was[4]); !slices.Equal(was[5:], records(rec(c, "c"), rec(d, "d"))) {
		t.Errorf("R4: Put changed what stands behind: %v", was[5:])
	}
}

// TestDropKeepsNothing: likewise for Keys.
func TestDropKeepsNothing(t *testing.T) {
	rs := ordinary()
	x := filled(rs...)
	room := some(e, b, key(3, 3), least, a, b, c, d)
	was := slices.Clone(room)
	x.Drop(room[:4]...)
	if !slices.Equal(room, was) {
		t.Errorf("R4: Drop changed %v to %v", was, room)
	}
	for i := range room {
		room[i] = c
	}
	has(t, "changed Keys", x, rs[0], rs[2], rs[3])
}

// TestAnswersStay: what was answered stays as it is, whatever becomes of the tree, and a change of it changes no tree.
func TestAnswersStay(t *testing.T) {
	rs := ordinary()
	x := filled(rs...)
	got, _ := x.Get(a)
	other, _ := x.Get(a)
	got.Key, got.Stamp, got.Text = e, api.Stamp{}, "changed"
	if other != rs[0] {
		t.Errorf("R4: another answer changed what Get answered: %v", other)
	}
	has(t, "a changed answer", x, rs...)
	x.Drop(a)
	x.Put(rec(a, "another"))
	if other != rs[0] {
		t.Errorf("R4: Drop and Put changed what Get answered: %v", other)
	}
}

// TestTreesAreApart: what is done to one changes no other one.
func TestTreesAreApart(t *testing.T) {
	x, y := New(), New()
	x.Put(rec(a, "to be"))
	has(t, "the other one", y)
	y.Put(rec(a, "to do"))
	x.Drop(a)
	has(t, "the one", x)
	has(t, "the other one, filled", y, rec(a, "to do"))
}

// TestAnyCalls holds a tree to which anything is done against the records that it must have.
func TestAnyCalls(t *testing.T) {
	r := rand.New(rand.NewPCG(12, 1))
	numbers := []int{0, 1, 2, 3, 4, 5, 64, 255, 256, 1022, 1023, 1024}
	anyKey := func() api.Key { return key(r.IntN(3)*4, numbers[r.IntN(len(numbers))]) }
	x := New()
	must := map[api.Key]api.Record{}
	put, refused, dropped := 0, 0, 0
	for range 300 {
		var ks []api.Key
		var rs []api.Record
		had := len(must)
		for range r.IntN(4) {
			k := anyKey()
			ks = append(ks, k)
			delete(must, k)
		}
		if got := x.Drop(ks...); got != had-len(must) {
			t.Fatalf("P12.1: Drop of %v is %d, not %d", ks, got, had-len(must))
		}
		dropped, had = dropped+had-len(must), len(must)
		for range r.IntN(7) {
			s := api.Record{Key: anyKey(), Stamp: api.Stamp{Wall: r.IntN(3), Count: r.IntN(2)}, Text: strings.Repeat("a", r.IntN(3))}
			rs = append(rs, s)
			if _, there := must[s.Key]; !there && s.Origin < api.MaxNodes && s.Seq >= 1 && s.Seq <= api.MaxSeq {
				must[s.Key] = s
			}
		}
		if got := x.Put(rs...); got != len(must)-had {
			t.Fatalf("P12.1: Put of %v is %d, not %d", rs, got, len(must)-had)
		}
		put, refused = put+len(must)-had, refused+len(rs)-len(must)+had
		if has(t, "any calls", x, slices.Collect(maps.Values(must))...); t.Failed() {
			t.FailNow()
		}
	}
	if put < 150 || refused < 150 || dropped < 150 {
		t.Errorf("%d put, %d refused, %d dropped", put, refused, dropped)
	}
}

// TestOfSize asks for what ends within moments: all records that there may be, put and dropped from behind.
func TestOfSize(t *testing.T) {
	var rs []api.Record
	var ks []api.Key
	text := strings.Repeat("日", api.MaxText/3)
	for origin := range api.MaxNodes {
		for seq := range api.MaxSeq {
			k := key(api.MaxNodes-1-origin, api.MaxSeq-seq)
			ks, rs = append(ks, k), append(rs, rec(k, text))
		}
	}
	x := filled(rs...)
	has(t, "all that there may be", x, rs...)
	for range 5 {
		y := New()
		for _, r := range rs {
			if y.Put(r) != 1 {
				t.Fatalf("P12.1: Put of %v", r)
			}
		}
		if !Same(x, y) || x.Root() != y.Root() || y.Put(rs...) != 0 || y.Len() != len(rs) {
			t.Fatal("P12.1: Put, of many")
		}
		for _, k := range ks {
			if y.Drop(k) != 1 {
				t.Fatalf("P12.1: Drop of %v", k)
			}
		}
		has(t, "all dropped", y)
	}
	if x.Drop(ks...) != len(ks) {
		t.Error("P12.1: Drop, of many")
	}
	has(t, "all dropped in one call", x)
}

func TestManyAtOneTime(t *testing.T) {
	x, y := filled(ordinary()...), filled(ordinary()...)
	y.Drop(a)
	var all sync.WaitGroup
	for range 8 {
		all.Go(func() {
			own := filled(ordinary()...)
			for range 100 {
				if !Same(x, x) || Same(x, y) || !Same(own, x) || own.Drop(a) != 1 || !Same(own, y) || own.Put(ordinary()[0]) != 1 {
					t.Error("R5: plain functions at one time")
				}
			}
		})
	}
	all.Wait()
}
