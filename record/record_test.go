package record

import (
	"bytes"
	"math"
	"slices"
	"strings"
	"sync"
	"testing"

	"grapevine/api"
)

// rec is a short form of a record.
func rec(origin, seq, wall, count int, text string) api.Record {
	return api.Record{Key: key(origin, seq), Stamp: api.Stamp{Wall: wall, Count: count}, Text: text}
}

// key is a short form of a Key.
func key(origin, seq int) api.Key { return api.Key{Origin: origin, Seq: seq} }

// mayBe are records that may be: an ordinary one, and each field at each bound and one within it.
func mayBe() []api.Record {
	full := strings.Repeat("x", api.MaxText)
	return []api.Record{
		rec(0, 1, 7, 0, "a"), rec(3, 515, 1<<33+5, 258, "To be, OR"),
		rec(0, 1, 0, 0, ""), rec(1, 1, 0, 0, ""), rec(api.MaxNodes-2, 1, 0, 0, ""), rec(api.MaxNodes-1, 1, 0, 0, ""),
		rec(0, 2, 0, 0, ""), rec(0, 255, 0, 0, ""), rec(0, 256, 0, 0, ""), rec(0, api.MaxSeq-1, 0, 0, ""), rec(0, api.MaxSeq, 0, 0, ""),
		rec(0, 1, 1, 0, ""), rec(0, 1, api.MaxWall-1, 0, ""), rec(0, 1, api.MaxWall, 0, ""),
		rec(0, 1, 0, 1, ""), rec(0, 1, 0, api.MaxCount-1, ""), rec(0, 1, 0, api.MaxCount, ""),
		rec(0, 1, 0, 0, full[1:]), rec(0, 1, 0, 0, full),
		rec(0, 1, 0, 0, strings.Repeat("\u00e9", api.MaxText/2)),
		rec(0, 1, 0, 0, "a\x00b"), rec(0, 1, 0, 0, "\ufffd\U0010ffff"),
		rec(api.MaxNodes-1, api.MaxSeq, api.MaxWall, api.MaxCount, full),
	}
}

// mayNotBe are records that may not be: each field alone one past each bound, or far past it, or a wrong text.
func mayNotBe() []api.Record {
	full := strings.Repeat("x", api.MaxText)
	rs := []api.Record{
		{}, rec(0, 1, 0, 0, full+"x"), rec(0, 1, 0, 0, strings.Repeat("\u00e9", api.MaxText/2+1)),
		rec(0, 1, 0, 0, strings.Repeat("x", 256)), rec(0, 1, 0, 0, "\xff"), rec(0, 1, 0, 0, "a\xc3"), rec(0, 1, 0, 0, "\xed\xa0\x80"),
		rec(api.MaxNodes, api.MaxSeq+1, api.MaxWall+1, api.MaxCount+1, full+"x"),
	}
	for _, past := range []struct{ below, above int }{{-1, 1}, {math.MinInt, math.MaxInt / 2}, {-256, 1 << 48}} {
		rs = append(rs,
			rec(past.below, 1, 0, 0, ""), rec(api.MaxNodes-1+past.above, 1, 0, 0, ""),
			rec(0, 1+past.below, 0, 0, ""), rec(0, api.MaxSeq+past.above, 0, 0, ""),
			rec(0, 1, past.below, 0, ""), rec(0, 1, api.MaxWall+past.above, 0, ""),
			rec(0, 1, 0, past.below, ""), rec(0, 1, 0, api.MaxCount+past.above, ""))
	}
	return rs
}

// laid are the bytes that a record must have, written down apart from the program's own way; the record need not be one that may be.
func laid(r api.Record) []byte {
	b := []byte{
		byte(r.Origin), byte(r.Seq >> 8), byte(r.Seq),
		byte(r.Wall >> 40), byte(r.Wall >> 32), byte(r.Wall >> 24), byte(r.Wall >> 16), byte(r.Wall >> 8), byte(r.Wall),
		byte(r.Count >> 8), byte(r.Count), byte(len(r.Text)),
	}
	return append(b, r.Text...)
}

// refused asks that Read answers none, 0 and false.
func refused(t *testing.T, why string, b []byte, at int) {
	t.Helper()
	if r, behind, ok := Read(b, at); r != (api.Record{}) || behind != 0 || ok {
		t.Errorf("P4.1: Read, %s: %v, %d, %v", why, r, behind, ok)
	}
}

// numbers answers a function that tells one number after another, below a bound, the same ones in each run.
func numbers() func(int) int {
	n := 1
	return func(below int) int {
		n = n * 48271 % 2147483647
		return n % below
	}
}

func TestMay(t *testing.T) {
	for _, r := range mayBe() {
		if !May(r) {
			t.Errorf("P4.1: May of %v is false", r)
		}
	}
	for _, r := range mayNotBe() {
		if May(r) {
			t.Errorf("P4.1: May of %v is true", r)
		}
	}
}

func TestSameIsAllFields(t *testing.T) {
	r := rec(2, 3, 4, 5, "a")
	if !Same(r, rec(2, 3, 4, 5, strings.Clone("a"))) {
		t.Error("P4.1: Same of equal records is false")
	}
	for _, other := range []api.Record{
		rec(3, 3, 4, 5, "a"), rec(2, 4, 4, 5, "a"), rec(2, 3, 5, 5, "a"), rec(2, 3, 4, 6, "a"),
		rec(2, 3, 4, 5, "A"), rec(2, 3, 4, 5, ""), rec(2, 3, 4, 5, "ab"), rec(3, 2, 4, 5, "a"), rec(2, 3, 5, 4, "a"), {},
	} {
		if Same(r, other) || Same(other, r) {
			t.Errorf("P4.1: Same(%v, %v) is true", r, other)
		}
	}
	// What may not be is looked at all the same.
	for _, bad := range mayNotBe() {
		if !Same(bad, bad) || Same(bad, r) {
			t.Errorf("P4.1: Same of %v", bad)
		}
	}
}

func TestLessIsByStampThenOriginThenSeq(t *testing.T) {
	rising := []api.Record{
		rec(9, 9, math.MinInt, 9, ""), rec(9, 9, -1, 9, ""), rec(9, 9, 0, -1, ""),
		rec(math.MinInt, 9, 0, 0, ""), rec(-1, 9, 0, 0, ""), rec(0, math.MinInt, 0, 0, ""), rec(0, 0, 0, 0, ""),
		rec(0, 1, 0, 0, "z"), rec(0, 2, 0, 0, "y"), rec(0, api.MaxSeq, 0, 0, "x"), rec(1, 1, 0, 0, "w"), rec(1, 2, 0, 0, "v"),
		rec(0, 1, 0, 1, "u"), rec(7, 9, 0, 2, "t"), rec(0, 9, 0, api.MaxCount, "s"),
		rec(5, 5, 1, 0, "r"), rec(5, 6, 1, 0, "q"), rec(0, 1, 1, 1, "p"), rec(0, 1, 2, 0, "o"),
		rec(0, 1, api.MaxWall, 0, "n"), rec(0, 0, api.MaxWall, api.MaxCount, "m"), rec(0, 0, math.MaxInt, math.MinInt, "l"),
		rec(math.MaxInt, math.MinInt, math.MaxInt, math.MaxInt, "k"), rec(math.MaxInt, math.MaxInt, math.MaxInt, math.MaxInt, "j"),
	}
	for i, a := range rising {
		for j, b := range rising {
			if got := Less(a, b); got != (i < j) {
				t.Errorf("P4.1: Less(%v, %v): %v", a, b, got)
			}
		}
	}
	// The text has no part in it.
	if Less(rec(1, 2, 3, 4, "a"), rec(1, 2, 3, 4, "b")) || Less(rec(1, 2, 3, 4, "b"), rec(1, 2, 3, 4, "a")) {
		t.Error("P4.1: Less is by text")
	}
}

func TestBeforeIsByOriginThenSeq(t *testing.T) {
	rising := []api.Key{
		key(math.MinInt, 5), key(-1, 9), key(0, math.MinInt), key(0, -1), key(0, 0), key(0, 1), key(0, api.MaxSeq),
		key(1, 1), key(1, 2), key(6, 9), key(api.MaxNodes-1, 1), key(api.MaxNodes-1, api.MaxSeq),
		key(math.MaxInt, math.MinInt), key(math.MaxInt, math.MaxInt),
	}
	for i, a := range rising {
		for j, b := range rising {
			if got := Before(a, b); got != (i < j) {
				t.Errorf("P4.1: Before(%v, %v): %v", a, b, got)
			}
		}
	}
}

func TestSort(t *testing.T) {
	a, b, c := rec(7, 9, 1, 0, "a"), rec(0, 1, 2, 0, "b"), rec(0, 2, 2, 0, "c")
	d, e := rec(1, 1, 2, 0, "d"), rec(0, 1, 2, 1, "e")
	// Alike but for their texts: none of them is less.
	c2, c3 := rec(0, 2, 2, 0, "C"), rec(0, 2, 2, 0, "")
	for _, x := range []struct {
		name     string
		rs, want []api.Record
	}{
		{"none", nil, nil},
		{"none, in a list", []api.Record{}, nil},
		{"one", []api.Record{c}, []api.Record{c}},
		{"one that may not be", []api.Record{{}}, []api.Record{{}}},
		{"two that rise", []api.Record{a, b}, []api.Record{a, b}},
		{"two that fall", []api.Record{b, a}, []api.Record{a, b}},
		{"all, rising", []api.Record{a, b, c, d, e}, []api.Record{a, b, c, d, e}},
		{"all, falling", []api.Record{e, d, c, b, a}, []api.Record{a, b, c, d, e}},
		{"all, mixed", []api.Record{c, e, a, d, b}, []api.Record{a, b, c, d, e}},
		{"the same one again", []api.Record{b, a, b, a}, []api.Record{a, a, b, b}},
		{"equal ones", []api.Record{c, c2, c3}, []api.Record{c, c2, c3}},
		{"equal ones, the other way round", []api.Record{c3, c2, c}, []api.Record{c3, c2, c}},
		{"equal ones among others", []api.Record{e, c2, a, c3, b, c, d}, []api.Record{a, b, c2, c3, c, d, e}},
		{"some that may not be", []api.Record{{}, rec(-1, 5, -1, 0, "x"), a, rec(0, 0, math.MaxInt, 0, "y"), {Text: "z"}},
			[]api.Record{rec(-1, 5, -1, 0, "x"), {}, {Text: "z"}, a, rec(0, 0, math.MaxInt, 0, "y")}},
	} {
		if got := Sort(x.rs...); !slices.Equal(got, x.want) {
			t.Errorf("P4.1: Sort, %s: %v", x.name, got)
		}
	}
	if got := Sort(c, a, b); !slices.Equal(got, []api.Record{a, b, c}) {
		t.Errorf("P4.1: Sort of three arguments: %v", got)
	}
}

// TestSortOfMany holds Sort against putting records in one by one: many are alike but for their texts.
func TestSortOfMany(t *testing.T) {
	next := numbers()
	for many := range 150 {
		var rs, want []api.Record
		for i := range many {
			r := rec(next(2), next(3), next(2), next(2), strings.Repeat("x", i))
			rs = append(rs, r)
			place := len(want)
			for place > 0 && Less(r, want[place-1]) {
				place--
			}
			want = slices.Insert(want, place, r)
		}
		if got := Sort(rs...); !slices.Equal(got, want) {
			t.Fatalf("P4.1: Sort of %d: %v", many, got)
		}
	}
}

func TestSortSharesNothing(t *testing.T) {
	for many := range 5 {
		room := make([]api.Record, 0, many+3)
		for i := range many + 3 {
			room = append(room, rec(i%8, 9-i, 9-i, 0, "a"))
		}
		rs, before := room[:many], slices.Clone(room)
		got := Sort(rs...)
		if !slices.Equal(room, before) {
			t.Errorf("R4: Sort of %d changed %v to %v", many, before, room)
		}
		other := Sort(rs...)
		want := slices.Clone(other)
		for i := range got {
			got[i] = api.Record{Text: "changed"}
		}
		// What is put behind the answer must not run into an argument's room either.
		_ = append(got, api.Record{Text: "changed"}, api.Record{Text: "changed"})
		if !slices.Equal(room, before) {
			t.Errorf("R4: what Sort of %d answers is the argument's memory: %v", many, room)
		}
		for i := range rs {
			rs[i] = api.Record{Text: "changed"}
		}
		if !slices.Equal(other, want) {
			t.Errorf("R4: two answers of Sort of %d share memory, or one with the argument: %v", many, other)
		}
	}
}

func TestLayExample(t *testing.T) {
	b, e := Lay(rec(0, 1, 7, 0, "a"))
	if !bytes.Equal(b, []byte{0, 0, 1, 0, 0, 0, 0, 0, 7, 0, 0, 1, 97}) || e != api.OK {
		t.Errorf("P4.1: Lay: %v, %d", b, e)
	}
}

func TestLayPutsTheHighestByteFirst(t *testing.T) {
	for _, x := range []struct {
		r    api.Record
		want string
	}{
		{rec(7, 0x203, 0xfedcba9876, 0x102, "h\u00e9"), "\x07\x02\x03\x00\xfe\xdc\xba\x98\x76\x01\x02\x03h\xc3\xa9"},
		{rec(0, 1, 0, 0, ""), "\x00\x00\x01\x00\x00\x00\x00\x00\x00\x00\x00\x00"},
		{rec(7, api.MaxSeq, api.MaxWall, api.MaxCount, strings.Repeat("x", 120)),
			"\x07\x03\xff\x01\x00\x00\x00\x00\x00\xff\xff\x78" + strings.Repeat("x", 120)},
	} {
		if b, e := Lay(x.r); string(b) != x.want || e != api.OK {
			t.Errorf("P4.1: Lay(%v): %x, %d", x.r, b, e)
		}
	}
}

func TestLayRefuses(t *testing.T) {
	for _, r := range mayNotBe() {
		if b, e := Lay(r); len(b) != 0 || e != api.ErrArg {
			t.Errorf("P4.1: Lay(%v): %x, %d", r, b, e)
		}
	}
}

func TestThereAndBack(t *testing.T) {
	for _, r := range mayBe() {
		b, e := Lay(r)
		if !bytes.Equal(b, laid(r)) || e != api.OK {
			t.Errorf("P4.1: Lay(%v): %x, %d", r, b, e)
		}
		for _, ahead := range []string{"", "\x00", "xyz", strings.Repeat("\xff", 300)} {
			for _, behind := range []string{"", "\x00", "xyz", string(b)} {
				all := []byte(ahead + string(b) + behind)
				got, at, ok := Read(all, len(ahead))
				if got != r || at != len(ahead)+len(b) || !ok {
					t.Errorf("P4.1: Read of %v, %d bytes ahead, %d behind: %v, %d, %v", r, len(ahead), len(behind), got, at, ok)
				}
			}
		}
		for k := range b {
			refused(t, "cut short", b[:k:k], 0)
			// The bytes behind the end are the record's: they are none of b's all the same.
			refused(t, "cut short, with room behind", b[:k], 0)
			refused(t, "cut short, behind others", append([]byte("xyz"), b[:k]...), 3)
		}
	}
}

func TestReadOneBehindTheOther(t *testing.T) {
	var all []byte
	for _, r := range mayBe() {
		b, _ := Lay(r)
		all = append(all, b...)
	}
	at := 0
	for _, want := range mayBe() {
		r, behind, ok := Read(all, at)
		if r != want || !ok {
			t.Fatalf("P4.1: Read at %d: %v, %v, not %v", at, r, ok, want)
		}
		at = behind
	}
	if at != len(all) {
		t.Errorf("P4.1: Read ends at %d of %d", at, len(all))
	}
	refused(t, "at the end", all, at)
}

func TestReadAtWrongPlaces(t *testing.T) {
	b := laid(rec(0, 1, 7, 0, "a"))
	for _, at := range []int{-1, -2, -len(b), 1, len(b) - 1, len(b), len(b) + 1, len(b) + 100, 1 << 40, math.MaxInt, math.MaxInt - 11, math.MinInt} {
		refused(t, "at a wrong place", b, at)
		refused(t, "at a wrong place of none", nil, at)
		refused(t, "at a wrong place of empty bytes", []byte{}, at)
	}
	refused(t, "of none", nil, 0)
	// A place that is no bound of a record is read as if it were one.
	zeros := []byte{9, 0, 0, 1, 0, 0, 0, 0, 0, 0, 0, 0, 0, 0}
	refused(t, "of a wrong origin", zeros, 0)
	if r, behind, ok := Read(zeros, 1); r != rec(0, 1, 0, 0, "") || behind != 13 || !ok {
		t.Errorf("P4.1: Read at 1: %v, %d, %v", r, behind, ok)
	}
}

func TestReadOfWhatMayNotBe(t *testing.T) {
	full := strings.Repeat("x", api.MaxText)
	for _, r := range []api.Record{
		rec(api.MaxNodes, 1, 0, 0, ""), rec(255, 1, 0, 0, ""), rec(0, 0, 0, 0, ""), rec(0, api.MaxSeq+1, 0, 0, ""), rec(0, 0xffff, 0, 0, ""),
		rec(0, 1, api.MaxWall+1, 0, ""), rec(0, 1, 1<<48-1, 0, ""), rec(0, 1, 0, 0, full+"x"), rec(0, 1, 0, 0, strings.Repeat("x", 255)),
		rec(0, 1, 0, 0, "\xff"), rec(0, 1, 0, 0, "a\xc3"), rec(0, 1, 0, 0, "\xa9a"), rec(0, 1, 0, 0, full[1:]+"\xff"), {},
	} {
		refused(t, "of what may not be", laid(r), 0)
		refused(t, "of what may not be, with bytes behind", append(laid(r), full+"xyz"...), 0)
		refused(t, "of what may not be, behind others", append([]byte("xyz"), laid(r)...), 3)
	}
	// A text that is cut by its length alone is no UTF-8, though the byte it lacks stands behind.
	cut := laid(rec(0, 1, 0, 0, "\u00e9"))
	cut[headBytes-1] = 1
	refused(t, "of half a rune", cut, 0)
}

// TestReadOfAnyBytes asks that what Read takes for a record has just those bytes.
func TestReadOfAnyBytes(t *testing.T) {
	next := numbers()
	taken := 0
	for range 20000 {
		b := laid(rec(next(10), next(1200), next(1<<30)<<11, next(1<<16), strings.Repeat("a", next(4))))
		b[next(len(b))] = byte(next(256))
		b = b[:len(b)-next(2)]
		r, behind, ok := Read(b, 0)
		if !ok {
			refused(t, "of any bytes", b, 0)
			continue
		}
		taken++
		again, e := Lay(r)
		if !May(r) || e != api.OK || !bytes.Equal(again, b[:behind]) {
			t.Fatalf("P4.1: Read(%x): %v, %d", b, r, behind)
		}
	}
	if taken == 0 {
		t.Error("P4.1: Read took none of the bytes for a record")
	}
}

func TestBytesShareNothing(t *testing.T) {
	r := rec(3, 5, 7, 9, "abc")
	one, _ := Lay(r)
	other, _ := Lay(r)
	for i := range one {
		one[i] = 0xee
	}
	_ = append(one, 0xee, 0xee)
	if !bytes.Equal(other, laid(r)) {
		t.Errorf("R4: two answers of Lay share memory: %x", other)
	}
	room := append(append([]byte("xy"), laid(r)...), 7, 7, 7)
	before := slices.Clone(room)
	got, _, ok := Read(room[:len(room)-3], 2)
	if !ok || !bytes.Equal(room, before) {
		t.Errorf("R4: Read changed %x to %x", before, room)
	}
	refused(t, "cut short", room[:len(room)-4], 2)
	refused(t, "of what may not be", room, 1)
	if !bytes.Equal(room, before) {
		t.Errorf("R4: Read that answers false changed %x to %x", before, room)
	}
	for i := range room {
		room[i] = 'z'
	}
	if got != r {
		t.Errorf("R4: what Read answered is the argument's memory: %v", got)
	}
}

func TestManyAtOneTime(t *testing.T) {
	a, b := rec(1, 2, 3, 4, "a"), rec(0, 9, 3, 4, "b")
	shared, whole := []api.Record{a, b}, laid(a)
	var all sync.WaitGroup
	for range 8 {
		all.Go(func() {
			for range 200 {
				laidNow, e := Lay(a)
				r, at, ok := Read(whole, 0)
				if !bytes.Equal(laidNow, whole) || e != api.OK || r != a || at != len(whole) || !ok ||
					!slices.Equal(Sort(shared...), []api.Record{b, a}) || !Less(b, a) || !Before(b.Key, a.Key) || Same(a, b) || !May(a) {
					t.Error("R5: plain functions at one time")
				}
			}
		})
	}
	all.Wait()
}
