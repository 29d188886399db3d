package descent

import (
	"math"
	"math/rand/v2"
	"slices"
	"strings"
	"sync"
	"testing"

	"grapevine/api"
	"grapevine/tree"
)

// key, rec, some and records are short forms of a Key, a record, Keys and records.
func key(origin, seq int) api.Key { return api.Key{Origin: origin, Seq: seq} }
func rec(k api.Key, text string) api.Record {
	return api.Record{Key: k, Stamp: api.Stamp{Wall: 7}, Text: text}
}
func some(ks ...api.Key) []api.Key          { return ks }
func records(rs ...api.Record) []api.Record { return rs }

// filled is a tree of these records, put in one call.
func filled(rs ...api.Record) *tree.Tree {
	x := tree.New()
	x.Put(rs...)
	return x
}

// backwards is a tree of these records, put one by one from behind, among others that are dropped again.
func backwards(rs ...api.Record) *tree.Tree {
	x := filled(rec(key(6, 6), "gone"), rec(key(0, 1023), "gone"))
	x.Drop(key(6, 6), key(0, 1023))
	for i := range rs {
		x.Put(rs[len(rs)-1-i])
	}
	return x
}

// far are numbers of no origin, level or range, and of no count of them.
func far() []int {
	return []int{-1, -2, -4, -1024, math.MinInt, math.MinInt + 1, math.MinInt / 4, math.MaxInt, math.MaxInt - 1, math.MaxInt / 4, math.MaxInt/4 + 1, 1 << 62, 1 << 32, math.MinInt32, 1 << 20}
}

// length is how many numbers a range of a level has.
func length(level int) int {
	many := 1
	for range api.Depth - level {
		many *= api.Fan
	}
	return many
}

// unlike are the Keys under which just one of both lists has a record, or both have unlike ones: told by the records alone, rising.
func unlike(t *testing.T, xs, ys []api.Record) []api.Key {
	t.Helper()
	of := func(rs []api.Record) map[api.Key]api.Record {
		m := map[api.Key]api.Record{}
		for _, r := range rs {
			m[r.Key] = r
		}
		if len(m) != len(rs) {
			t.Fatal("two records under one Key")
		}
		return m
	}
	x, y := of(xs), of(ys)
	var ks []api.Key
	for origin := range api.MaxNodes {
		for seq := 1; seq <= api.MaxSeq; seq++ {
			if k := key(origin, seq); x[k] != y[k] {
				ks = append(ks, k)
			}
		}
	}
	return ks
}

// below are the Keys of so many origins, of Keys that rise.
func below(ks []api.Key, origins int) []api.Key {
	many := 0
	for _, k := range ks {
		if k.Origin < origins {
			many++
		}
	}
	return ks[:many]
}

// counted is how many ranges are asked, where just the ranges of these Keys differ.
func counted(ks []api.Key, origins int) int {
	asked := origins
	for level := range api.Depth {
		differ := map[Range]int{}
		for _, k := range ks {
			differ[Range{k.Origin, level, k.Seq / length(level)}]++
		}
		asked += 4 * len(differ)
	}
	return asked
}

// partsOf are the parts of a range, where just the ranges of these Keys differ.
func partsOf(ks []api.Key, r Range) []Range {
	var parts []Range
	for i := 4 * r.I; i < 4*r.I+4; i++ {
		in := func(k api.Key) bool { return k.Origin == r.Origin && k.Seq/length(r.Level+1) == i }
		if slices.ContainsFunc(ks, in) {
			parts = append(parts, Range{r.Origin, r.Level + 1, i})
		}
	}
	return parts
}

// differs asks that the trees of two lists differ in just the Keys that the lists do: all that can be asked.
func differs(t *testing.T, name string, xs, ys []api.Record) {
	t.Helper()
	x, y := filled(xs...), filled(ys...)
	all := unlike(t, xs, ys)
	for _, origins := range []int{math.MinInt, -1, 0, 1, 2, 3, 4, 5, 6, 7, 8, 9, math.MaxInt} {
		n := max(0, min(origins, 8))
		want := below(all, n)
		finds(t, name, x, y, origins, want, counted(want, n))
	}
	if Clash(x, y, 8) || Clash(y, x, 8) {
		t.Errorf("P13.1: %s: Clash is true", name)
	}
	for origin := range api.MaxNodes {
		for level := range api.Depth {
			for i := range length(0) / length(level) {
				r := Range{origin, level, i}
				steps(t, name, x, y, r, partsOf(all, r)...)
			}
		}
	}
}

// finds asks what Find answers, of two trees and of the same by turns.
func finds(t *testing.T, name string, x, y *tree.Tree, origins int, want []api.Key, asked int) {
	t.Helper()
	got, n := Find(x, y, origins)
	back, m := Find(y, x, origins)
	if !slices.Equal(got, want) || n != asked {
		t.Errorf("P13.1: %s: Find of %d: %v, %d, not %v, %d", name, origins, got, n, want, asked)
	}
	if !slices.Equal(back, got) || m != n {
		t.Errorf("P13.1: %s: Find of %d, by turns: %v, %d, not %v, %d", name, origins, back, m, got, n)
	}
	if n > Bound(len(got)) {
		t.Errorf("P13.2: %s: Find of %d: %d asked for %d Keys", name, origins, n, len(got))
	}
}

// steps asks what Step answers, of two trees and of the same by turns.
func steps(t *testing.T, name string, x, y *tree.Tree, r Range, want ...Range) {
	t.Helper()
	if got := Step(x, y, r); !slices.Equal(got, want) {
		t.Errorf("P13.1: %s: Step of %v: %v, not %v", name, r, got, want)
	}
	if got := Step(y, x, r); !slices.Equal(got, want) {
		t.Errorf("P13.1: %s: Step of %v, by turns: %v, not %v", name, r, got, want)
	}
}

func TestOfTheChapter(t *testing.T) {
	if ks, asked := Find(tree.New(), tree.New(), 3); len(ks) != 0 || asked != 3 {
		t.Errorf("P13.1: Find of two empty trees, of 3 origins: %v, %d", ks, asked)
	}
}

// base are records of several origins, which both trees have.
func base() []api.Record {
	rs := records(rec(key(0, 10), "to"), rec(key(0, 12), ""), rec(key(1, 1), "be"), rec(key(3, 900), "日"), rec(key(7, 1023), "or"))
	for seq := 1; seq <= 40; seq++ {
		rs = append(rs, rec(key(4, seq*25), "not"))
	}
	return rs
}

func TestOfOneRecord(t *testing.T) {
	for _, origin := range []int{0, 4, 7} {
		for _, seq := range []int{1, 2, 3, 4, 5, 63, 64, 255, 256, 626, 767, 768, 1022} {
			k := key(origin, seq)
			with := append(base(), rec(k, "one"))
			differs(t, "one record more", base(), with)
			for name, r := range map[string]api.Record{
				"another text":      rec(k, "other"),
				"another wall time": {Key: k, Stamp: api.Stamp{Wall: 8}, Text: "one"},
				"another count":     {Key: k, Stamp: api.Stamp{Wall: 7, Count: 1}, Text: "one"},
			} {
				differs(t, name, with, append(base(), r))
			}
			finds(t, "one record more", filled(base()...), filled(with...), 8, some(k), 28)
			finds(t, "one record alone", tree.New(), filled(rec(k, "")), origin+1, some(k), origin+21)
		}
	}
}

// TestOfSeveralRecords holds what is found against numbers that were written down by hand.
func TestOfSeveralRecords(t *testing.T) {
	for _, z := range []struct {
		name   string
		xs, ys []api.Record
		want   []api.Key
		asked  int
	}{
		{"no record", nil, nil, nil, 8},
		{"the same records", base(), base(), nil, 8},
		{"side by side in a range of level 4", nil, records(rec(key(0, 4), "a"), rec(key(0, 7), "b")), some(key(0, 4), key(0, 7)), 28},
		{"side by side in two ranges of level 4", nil, records(rec(key(0, 7), "a"), rec(key(0, 8), "b")), some(key(0, 7), key(0, 8)), 32},
		{"side by side in two ranges of level 1", nil, records(rec(key(0, 255), "a"), rec(key(0, 256), "b")), some(key(0, 255), key(0, 256)), 44},
		{"the first and the last number", nil, records(rec(key(3, 1023), "a"), rec(key(3, 1), "b")), some(key(3, 1), key(3, 1023)), 44},
		{"one of each tree", records(rec(key(2, 9), "a")), records(rec(key(2, 10), "a")), some(key(2, 9), key(2, 10)), 28},
		{"one number of two origins", records(rec(key(1, 5), "a")), records(rec(key(6, 5), "a")), some(key(1, 5), key(6, 5)), 48},
		{"of several origins", records(rec(key(5, 2), "a"), rec(key(0, 900), "a"), rec(key(2, 5), "to")), records(rec(key(7, 1), "a"), rec(key(2, 5), "be")), some(key(0, 900), key(2, 5), key(5, 2), key(7, 1)), 88},
		{"texts by turns", records(rec(key(1, 1), "a"), rec(key(1, 2), "b")), records(rec(key(1, 1), "b"), rec(key(1, 2), "a")), some(key(1, 1), key(1, 2)), 28},
		{"higher numbers of lower origins", records(rec(key(0, 1000), "a"), rec(key(1, 500), "a")), records(rec(key(2, 1), "a")), some(key(0, 1000), key(1, 500), key(2, 1)), 68},
		{"one there, one gone, one unlike", append(base(), rec(key(4, 26), "new")), records(append(slices.Clone(base()[1:]), rec(key(1, 2), "only"))...), some(key(0, 10), key(1, 2), key(4, 26)), 68},
	} {
		differs(t, z.name, z.xs, z.ys)
		finds(t, z.name, filled(z.xs...), backwards(z.ys...), 8, z.want, z.asked)
	}
}

// TestStepOfEachLevel holds what Step answers against parts that were written down by hand.
func TestStepOfEachLevel(t *testing.T) {
	both := records(rec(key(2, 12), "a"), rec(key(2, 800), "a"), rec(key(5, 77), "a"))
	x := filled(append(both, rec(key(2, 1), "a"), rec(key(2, 6), "a"), rec(key(2, 7), "to"))...)
	y := filled(append(both, rec(key(2, 7), "be"), rec(key(2, 1000), "a"), rec(key(2, 260), "a"))...)
	for _, z := range []struct {
		r    Range
		want []Range
	}{
		{Range{2, 0, 0}, []Range{{2, 1, 0}, {2, 1, 1}, {2, 1, 3}}},
		{Range{2, 1, 0}, []Range{{2, 2, 0}}},
		{Range{2, 1, 1}, []Range{{2, 2, 4}}},
		{Range{2, 1, 3}, []Range{{2, 2, 15}}},
		{Range{2, 2, 0}, []Range{{2, 3, 0}}},
		{Range{2, 2, 15}, []Range{{2, 3, 62}}},
		{Range{2, 3, 0}, []Range{{2, 4, 0}, {2, 4, 1}}},
		{Range{2, 3, 62}, []Range{{2, 4, 250}}},
		{Range{2, 4, 0}, []Range{{2, 5, 1}}},
		{Range{2, 4, 1}, []Range{{2, 5, 6}, {2, 5, 7}}},
		{Range{2, 4, 65}, []Range{{2, 5, 260}}},
		{Range{2, 4, 250}, []Range{{2, 5, 1000}}},
		// At level Depth none, whether the Sums differ or not.
		{Range{2, 5, 1}, nil}, {Range{2, 5, 7}, nil}, {Range{2, 5, 12}, nil}, {Range{2, 5, 0}, nil}, {Range{2, 5, 1023}, nil},
		// The Sums are the same: with records there, and without.
		{Range{2, 1, 2}, nil}, {Range{2, 2, 12}, nil}, {Range{2, 4, 3}, nil}, {Range{2, 4, 200}, nil}, {Range{5, 0, 0}, nil}, {Range{5, 4, 19}, nil},
		{Range{0, 0, 0}, nil}, {Range{7, 4, 255}, nil}, {Range{2, 4, 255}, nil}, {Range{2, 3, 1}, nil},
	} {
		steps(t, "each level", x, y, z.r, z.want...)
		steps(t, "each level, the tree itself", x, x, z.r)
	}
}

func TestStepOfAllParts(t *testing.T) {
	for level := range api.Depth {
		wide := length(level + 1)
		for _, i := range []int{0, 1<<(2*level) - 1} {
			var rs []api.Record
			var want []Range
			for part := range api.Fan {
				rs = append(rs, rec(key(3, max(1, (4*i+part)*wide)), "a"))
				want = append(want, Range{3, level + 1, 4*i + part})
			}
			if level == api.Depth-1 && i == 0 { // there is no record of number 0
				want = want[1:]
			}
			steps(t, "all parts", tree.New(), filled(rs...), Range{3, level, i}, want...)
			steps(t, "all parts, of trees that have them", filled(rs...), backwards(rs...), Range{3, level, i})
		}
	}
}

// TestRangesThatThereAreNot: of an origin, a level or a number, to either side.
func TestRangesThatThereAreNot(t *testing.T) {
	var rs []api.Record
	for origin := range api.MaxNodes {
		rs = append(rs, rec(key(origin, 1), "a"), rec(key(origin, 1023), "a"), rec(key(origin, 300), "a"))
	}
	x, y := tree.New(), filled(rs...)
	none := func(r Range) { steps(t, "no range", x, y, r) }
	for _, origin := range append(far(), api.MaxNodes, api.MaxNodes+1) {
		for level := range api.Depth + 2 {
			none(Range{origin, level, 0})
		}
		none(Range{origin, origin, origin})
	}
	for _, level := range append(far(), api.Depth+1, api.Depth+2) {
		for _, i := range []int{0, 1, 300, 1023, 1024, 4095} {
			none(Range{0, level, i})
			none(Range{7, level, i})
		}
	}
	for level := range api.Depth + 1 {
		many := 1 << (2 * level)
		for _, i := range append(far(), many, many+1, many*api.Fan, -many, 1024) {
			none(Range{0, level, i})
			none(Range{7, level, i})
		}
	}
	steps(t, "the zero one", x, y, Range{}, Range{0, 1, 0}, Range{0, 1, 1}, Range{0, 1, 3})
}

// TestFindOfSomeOrigins: those not asked for are neither looked at nor counted.
func TestFindOfSomeOrigins(t *testing.T) {
	x, y := filled(base()...), filled(append(base(), rec(key(5, 70), "only"))...)
	for _, origins := range append(far(), 0, 1, 2, 3, 4, 5, 6, 7, 8, 9, 10) {
		n := max(0, min(origins, 8))
		if origins > 5 {
			finds(t, "the origin asked for", x, y, origins, some(key(5, 70)), n+20)
		} else {
			finds(t, "an origin that is not asked for", x, y, origins, nil, n)
		}
	}
}

func TestFindOfTheSame(t *testing.T) {
	for _, rs := range [][]api.Record{nil, base(), base()[:1], base()[4:], records(rec(key(7, 1023), strings.Repeat("日", 40)))} {
		x, y := filled(rs...), backwards(rs...)
		for origins := range 10 {
			finds(t, "a tree and itself", x, x, origins, nil, min(origins, 8))
			finds(t, "filled in another order", x, y, origins, nil, min(origins, 8))
			if Clash(x, x, origins) || Clash(x, y, origins) || Clash(y, x, origins) {
				t.Errorf("P13.1: Clash of the same, of %d", origins)
			}
		}
		differs(t, "the same records", rs, rs)
	}
}

// clash is two texts of a record of the same digest at one level, where the record is alone in its tree: above that level it is the same, too, and below it is not.
type clash struct {
	api.Key
	level      int
	one, other string
}

// clashing are clashes at each level, of an origin and a number in the midst, and of the last ones.
func clashing() []clash {
	midst, last := key(2, 625), key(7, 1023)
	return []clash{
		{midst, 0, "PlmJLlQh291", "m0J7c3wvEB9"},
		{midst, 1, "6dxKLUyEJtA", "VjJw4mWg8w2"},
		{midst, 2, "6LOsfYacoZ8", "vIv1bZBmRDF"},
		{midst, 3, "6a9ivvxTrP8", "T6oeZ215lH5"},
		{midst, 4, "bBmdGu.2kXC", "OcoPkqu8N.1"},
		{midst, 5, "X.EAr4wTWq0", "5PJnudjBRP7"},
		{last, 0, "JcTxt0OSELE", "tV1YuxRp6S0"},
		{last, 1, "lYlYdDyBgxB", "6DW5eMnMnt7"},
		{last, 2, "R qAsdfUus4", "4Pg5MiBDhJ7"},
		{last, 3, "veJnAsE9rg7", "4Ws.yQGx9y2"},
		{last, 4, "cr8hfEl0rP9", "jGWX3h5EVm2"},
		{last, 5, "Cq8el1EIjzF", "FgRaL rf5h3"},
	}
}

// clashes asks for a Clash from an origin on.
func clashes(t *testing.T, name string, x, y *tree.Tree, from int) {
	t.Helper()
	for _, origins := range append(far(), 0, 1, 2, 3, 4, 5, 6, 7, 8, 9) {
		if Clash(x, y, origins) != (origins > from) || Clash(y, x, origins) != (origins > from) {
			t.Errorf("P13.1: %s: Clash of %d is not %v", name, origins, origins > from)
		}
		if Clash(x, x, origins) || Clash(y, y, origins) {
			t.Errorf("P13.1: %s: Clash of a tree and itself, of %d", name, origins)
		}
	}
}

func TestClashAtEachLevel(t *testing.T) {
	for _, c := range clashing() {
		x, y := filled(rec(c.Key, c.one)), filled(rec(c.Key, c.other))
		for level := range api.Depth + 1 {
			r := Range{c.Origin, level, c.Seq / length(level)}
			one, _ := x.Sum(r.Origin, r.Level, r.I)
			other, _ := y.Sum(r.Origin, r.Level, r.I)
			if (one == other) != (level <= c.level) || c.one == c.other {
				t.Fatalf("not a clash: %v", c)
			}
			if level > c.level && level < api.Depth {
				steps(t, "below a clash", x, y, r, Range{c.Origin, level + 1, c.Seq / length(level+1)})
			} else {
				steps(t, "a clash", x, y, r)
			}
		}
		clashes(t, "a clash", x, y, c.Origin)
		finds(t, "a clash", x, y, 8, nil, 8)
	}
}

// TestClashBesideOthers: records elsewhere that differ hide no clash, and those within its range lay it open.
func TestClashBesideOthers(t *testing.T) {
	for _, c := range clashing() {
		for level := range api.Depth + 1 {
			// A number that a range of this level has together with the clash's, but no range of the next one.
			begin := c.Seq / length(level) * length(level)
			more := key(c.Origin, begin+(c.Seq+length(level)/2)%length(level))
			if level == api.Depth {
				more = key(6, 625)
			}
			xs := append(others(), rec(c.Key, c.one), rec(more, "more"))
			ys := append(others(), rec(c.Key, c.other))
			if level >= c.level && level < api.Depth {
				differs(t, "laid open", xs, ys)
				continue
			}
			x, y := filled(xs...), filled(ys...)
			clashes(t, "beside others", x, y, c.Origin)
			finds(t, "beside others", x, y, 8, some(more), 28)
		}
	}
}

// others are records that both trees have, none of a clash's origin: there it would lay the clash open.
func others() []api.Record {
	return append(base()[:4], rec(key(5, 625), "or"), rec(key(5, 1023), "or"))
}

// zeros are two records of the number 1 of origin 0, the digest of whose bytes is 0.
func zeros() (api.Record, api.Record) {
	return rec(key(0, 1), "aaab \x02\x01\x03\x1d\x01\x03\x0c\x03\x04\x0f\x01\x00\x07\x0c\r\x01\x04\x00\x05\x01"),
		rec(key(0, 1), "baaaa \x1e\x00\x0c\x1e\x02\x02\x05\x02\x04\x03\x06\x1c\x01\x06\x1e\x0e\x0f\x06\x02\x01")
}

func TestClashOfDigestZero(t *testing.T) {
	one, other := zeros()
	x, y := filled(one), filled(other)
	if d, _ := x.Sum(0, api.Depth, 1); d != 0 || x.Root() != y.Root() || tree.Same(x, y) {
		t.Fatal("these records are not unlike, of digest 0")
	}
	for name, pair := range map[string][2]*tree.Tree{
		"unlike ones":              {x, y},
		"one, and none":            {x, tree.New()},
		"the other one, and none":  {tree.New(), y},
		"unlike ones, with others": {filled(append(base()[1:], one)...), filled(append(base()[1:], other)...)},
		"one, with others":         {filled(append(base()[1:], one)...), filled(base()[1:]...)},
	} {
		clashes(t, "digest 0, "+name, pair[0], pair[1], 0)
		finds(t, "digest 0, "+name, pair[0], pair[1], 8, nil, 8)
		steps(t, "digest 0, "+name, pair[0], pair[1], Range{})
		steps(t, "digest 0, "+name, pair[0], pair[1], Range{0, 4, 0})
	}
	// Against a record of another digest it is one that differs, and no clash.
	differs(t, "digest 0, against another", records(one), records(rec(key(0, 1), "a")))
	differs(t, "digest 0, the same", append(base()[1:], one), append(base()[1:], one))
	finds(t, "digest 0, beside one that differs", filled(one, rec(key(0, 2), "a")), filled(other), 8, some(key(0, 2)), 28)
	clashes(t, "digest 0, beside one that differs", filled(one, rec(key(0, 2), "a")), filled(other), 0)
}

func TestBound(t *testing.T) {
	for _, z := range []struct{ many, want int }{
		{0, 8}, {1, 28}, {2, 48}, {3, 68}, {7, 148}, {300, 6008}, {8 * 1023, 163688}, {1 << 31, 8 + 20<<31}, {-1, -12},
	} {
		if got := Bound(z.many); got != z.want {
			t.Errorf("P13.1: Bound(%d) is %d, not %d", z.many, got, z.want)
		}
	}
	for _, many := range far() { // R1
		Bound(many)
	}
}

// TestDrawnTrees: of trees that have many records alike, and some that differ in one way or another.
func TestDrawnTrees(t *testing.T) {
	draw := rand.New(rand.NewPCG(13, 2))
	numbers := []int{1, 2, 3, 4, 255, 256, 1022, 1023}
	found := 0
	for round := range 150 {
		var xs, ys []api.Record
		taken := map[api.Key]int{}
		for range draw.IntN(60) {
			k := key(draw.IntN(8), 1+draw.IntN(1023))
			if draw.IntN(3) == 0 {
				k.Seq = numbers[draw.IntN(len(numbers))]
			}
			if taken[k]++; taken[k] > 1 {
				continue
			}
			r := api.Record{Key: k, Stamp: api.Stamp{Wall: draw.IntN(5), Count: draw.IntN(2)}, Text: strings.Repeat("a", draw.IntN(4))}
			switch draw.IntN(2 + round%5) {
			case 0:
				xs = append(xs, r)
			case 1:
				ys = append([]api.Record{r}, ys...)
			case 2:
				xs = append(xs, r)
				r.Text += "b"
				ys = append([]api.Record{r}, ys...)
			default:
				xs = append(xs, r)
				ys = append([]api.Record{r}, ys...)
			}
		}
		differs(t, "drawn", xs, ys)
		found += len(unlike(t, xs, ys))
		if t.Failed() {
			t.FailNow()
		}
	}
	if found < 1000 {
		t.Errorf("only %d differ", found)
	}
}

func TestNoTree(t *testing.T) {
	one, other := zeros()
	for name, pair := range map[string][2]*tree.Tree{
		"for a": {nil, filled(base()...)}, "for b": {filled(base()...), nil}, "for both": {nil, nil},
		"for a, b empty": {nil, tree.New()}, "for b, a empty": {tree.New(), nil},
		"for a, b of digest 0": {nil, filled(one)}, "for b, a of digest 0": {filled(other), nil},
	} {
		for _, origins := range append(far(), 0, 1, 8, 9) {
			if ks, asked := Find(pair[0], pair[1], origins); len(ks) != 0 || asked != 0 {
				t.Errorf("R3: no tree %s: Find of %d: %v, %d", name, origins, ks, asked)
			}
			if Clash(pair[0], pair[1], origins) {
				t.Errorf("R3: no tree %s: Clash of %d", name, origins)
			}
		}
		for _, r := range []Range{{}, {4, 0, 0}, {4, 4, 6}, {4, 5, 25}, {-1, 0, 0}, {0, 6, 0}, {math.MaxInt, math.MaxInt, math.MaxInt}, {math.MinInt, math.MinInt, math.MinInt}} {
			if got := Step(pair[0], pair[1], r); len(got) != 0 {
				t.Errorf("R3: no tree %s: Step of %v: %v", name, r, got)
			}
		}
	}
}

// TestAnswersStay: an answer that is changed, in its spare room too, changes neither a tree nor another answer, and no call changes a tree.
func TestAnswersStay(t *testing.T) {
	ys := append(base(), rec(key(0, 2), "a"), rec(key(0, 1000), "b"), rec(key(7, 5), "c"))
	x, y := filled(base()...), filled(ys...)
	want := some(key(0, 2), key(0, 1000), key(7, 5))
	parts := []Range{{0, 1, 0}, {0, 1, 3}}
	first, _ := Find(x, y, 8)
	other, _ := Find(x, y, 8)
	steps, others := Step(x, y, Range{}), Step(x, y, Range{})
	Clash(x, y, 8)
	for i := range first[:cap(first)] {
		first[:cap(first)][i] = key(9, 9)
	}
	for i := range steps[:cap(steps)] {
		steps[:cap(steps)][i] = Range{9, 9, 9}
	}
	if again, _ := Find(x, y, 8); !slices.Equal(other, want) || !slices.Equal(again, want) {
		t.Errorf("R4: a changed answer changed %v, %v", other, again)
	}
	if again := Step(x, y, Range{}); !slices.Equal(others, parts) || !slices.Equal(again, parts) {
		t.Errorf("R4: a changed answer changed %v, %v", others, again)
	}
	if !tree.Same(x, filled(base()...)) || !tree.Same(y, filled(ys...)) || x.Root() != filled(base()...).Root() || y.Root() != filled(ys...).Root() {
		t.Error("R4: a tree is changed")
	}
	// What was answered stays as it is when the trees change.
	x.Put(ys...)
	y.Drop(key(7, 1023))
	if !slices.Equal(other, want) || !slices.Equal(others, parts) {
		t.Errorf("R4: the trees' changes changed %v, %v", other, others)
	}
}

// everything are all records that there may be.
func everything(text string) []api.Record {
	var rs []api.Record
	for origin := range api.MaxNodes {
		for seq := range api.MaxSeq {
			rs = append(rs, rec(key(origin, 1+seq), text))
		}
	}
	return rs
}

// TestOfSize asks for what ends within moments.
func TestOfSize(t *testing.T) {
	long := strings.Repeat("日", api.MaxText/3)
	all := everything(long)
	full, unlikes := filled(all...), filled(everything(long[3:]+"abc")...)
	for _, x := range []*tree.Tree{tree.New(), unlikes} {
		for range 10 {
			// Each range differs: all 341 above level Depth have four parts.
			ks, asked := Find(full, x, 8)
			if len(ks) != 8*1023 || asked != 8*(1+4*341) || Clash(full, x, 8) {
				t.Fatalf("P13.1: of all records: %d Keys, %d", len(ks), asked)
			}
			for i, k := range ks {
				if k != all[i].Key {
					t.Fatalf("P13.1: of all records: %v, not %v", k, all[i].Key)
				}
			}
		}
	}
	full.Drop(key(3, 512))
	differs(t, "one less of all", all, slices.DeleteFunc(slices.Clone(all), func(r api.Record) bool { return r.Key == key(3, 512) }))
	for range 100 {
		finds(t, "one less of all", full, filled(all[3*1023:4*1023]...), 0, nil, 0)
		if ks, asked := Find(full, unlikes, 4); len(ks) != 4*1023 || asked != 4*(1+4*341) {
			t.Fatalf("P13.1: of many records: %d Keys, %d", len(ks), asked)
		}
	}
}

func TestManyAtOneTime(t *testing.T) {
	one, other := zeros()
	x, y := filled(append(base()[1:], one)...), filled(append(base()[1:], other, rec(key(1, 2), "a"))...)
	want := some(key(1, 2))
	var all sync.WaitGroup
	for range 8 {
		all.Go(func() {
			for range 20 {
				ks, asked := Find(x, y, 8)
				parts := Step(x, y, Range{1, 0, 0})
				if !slices.Equal(ks, want) || asked != 28 || !slices.Equal(parts, []Range{{1, 1, 0}}) || !Clash(x, y, 8) || Bound(1) != 28 {
					t.Error("R5: plain functions at one time")
				}
			}
		})
	}
	all.Wait()
}
