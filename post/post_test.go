package post

import (
	"math"
	"math/rand/v2"
	"slices"
	"sync"
	"testing"

	"grapevine/api"
)

// key, some, stands, list and lists are short forms of a Key, Keys, a Post, a list and lists.
func key(origin, seq int) api.Key              { return api.Key{Origin: origin, Seq: seq} }
func some(ks ...api.Key) []api.Key             { return ks }
func stands(k api.Key, places ...int) api.Post { return api.Post{Key: k, At: places} }
func list(ps ...api.Post) []api.Post           { return ps }
func lists(ls ...[]api.Post) [][]api.Post      { return ls }

// Keys, the lesser one first.
var (
	least    = key(math.MinInt, math.MinInt)
	a        = key(0, 1)
	b        = key(0, 2)
	c        = key(1, 1)
	d        = key(2, 9)
	e        = key(3, 0)
	greatest = key(math.MaxInt, math.MaxInt)
)

// equal tells whether two lists are the same.
func equal(l, m []api.Post) bool {
	return slices.EqualFunc(l, m, func(p, q api.Post) bool { return p.Key == q.Key && slices.Equal(p.At, q.At) })
}

// alone is a copy of l that shares no memory with it.
func alone(l []api.Post) []api.Post {
	var made []api.Post
	for _, p := range l {
		made = append(made, stands(p.Key, append([]int(nil), p.At...)...))
	}
	return made
}

// roomy is a copy of l that shares no memory with it, with room behind it, and behind the places of each Post, that holds something.
func roomy(l []api.Post) []api.Post {
	room := alone(append(slices.Clone(l), stands(b, 7), stands(a, 7, 7)))
	for i, p := range room {
		room[i].At = append(p.At, 70, 71, 72)[:len(p.At)]
	}
	return room[:len(l)]
}

// whole tells all of l, with the room behind it and behind the places of each Post, which begin with how many these are.
func whole(l []api.Post) []api.Post {
	var all []api.Post
	for _, p := range l[:cap(l)] {
		all = append(all, stands(p.Key, append([]int{len(p.At)}, p.At[:cap(p.At)]...)...))
	}
	return all
}

// spoil puts other things into all of l, with the room behind it and behind the places of each Post.
func spoil(l []api.Post) {
	for i, p := range l[:cap(l)] {
		for j := range p.At[:cap(p.At)] {
			p.At[:cap(p.At)][j] = -9
		}
		l[:cap(l)][i] = stands(key(-9, -9), -9)
	}
}

// spoilKeys puts other Keys into all of ks, with the room behind them.
func spoilKeys(ks []api.Key) {
	for i := range ks[:cap(ks)] {
		ks[:cap(ks)][i] = key(-9, -9)
	}
}

// unchanged answers a check that lists, with the room behind them, are as they were ahead of a call.
func unchanged(t *testing.T, name string, ls ...[]api.Post) func() {
	var were [][]api.Post
	for _, l := range ls {
		were = append(were, whole(l))
	}
	return func() {
		t.Helper()
		for i, l := range ls {
			if !equal(were[i], whole(l)) {
				t.Errorf("R4: %s changed %v to %v", name, were[i], whole(l))
			}
		}
	}
}

// mayBe are lists that may be: at each edge one, and ordinary ones.
func mayBe() [][]api.Post {
	long := list()
	for i := range 300 {
		long = append(long, stands(key(i/100, i%100), i, i+1, 2*i+9))
	}
	return lists(nil, list(), make([]api.Post, 0, 5),
		list(stands(a, 0)), list(stands(a, 7)), list(stands(a, math.MaxInt)), list(stands(a, 0, math.MaxInt)), list(stands(a, 0, 1, 2, 3, 9)), list(stands(a, math.MaxInt-1, math.MaxInt)),
		list(stands(key(0, 0), 0)), list(stands(key(-1, -1), 0)), list(stands(least, 1)), list(stands(greatest, 1)),
		list(stands(a, 3), stands(b, 3)), list(stands(a, 9), stands(b, 0)), list(stands(b, 3), stands(c, 3)), list(stands(a, 0, 3), stands(b, 1), stands(c, 2), stands(d, 0, 1, 2), stands(e, 5)),
		list(stands(key(1, 9), 3), stands(key(2, 1), 3)), list(stands(key(-1, 5), 0), stands(key(0, -5), 0), stands(key(0, 0), 0)),
		list(stands(least, 0), stands(key(math.MinInt, math.MaxInt), 0), stands(a, 0), stands(key(math.MaxInt, math.MinInt), 0), stands(greatest, 0)), long)
}

// wrongPlaces are places that no Post may have.
func wrongPlaces() [][]int {
	return [][]int{nil, {}, make([]int, 0, 3), {-1}, {math.MinInt}, {-1, 0}, {-1, 3}, {math.MinInt, math.MaxInt}, {-3, -2, -1}, {0, -1}, {3, -1, 4},
		{0, 0}, {2, 2}, {math.MaxInt, math.MaxInt}, {3, 2}, {1, 0}, {math.MaxInt, 0}, {math.MaxInt, math.MinInt}, {1, 2, 2}, {1, 1, 2}, {1, 2, 3, 3, 4}, {1, 3, 2}, {2, 1, 3}, {1, 2, 3, 0}}
}

// mayNotBe are lists that may not be: each is wrong in one way.
func mayNotBe() [][]api.Post {
	wrong := lists(
		// The Keys stand there twice, or fall.
		list(stands(a, 1), stands(a, 1)), list(stands(a, 1), stands(a, 2)), list(stands(a, 1), stands(b, 1), stands(b, 1)), list(stands(a, 1), stands(a, 1), stands(b, 1)),
		list(stands(b, 1), stands(a, 1)), list(stands(c, 1), stands(b, 1)), list(stands(key(1, 1), 1), stands(key(0, 9), 1)), list(stands(greatest, 1), stands(least, 1)), list(stands(greatest, 1), stands(greatest, 1)),
		list(stands(a, 1), stands(c, 1), stands(b, 1)), list(stands(b, 1), stands(a, 1), stands(c, 1)), list(stands(a, 1), stands(b, 1), stands(a, 1)), list(stands(a, 1), stands(b, 1), stands(c, 1), stands(d, 1), stands(c, 1)))
	for _, at := range wrongPlaces() {
		odd := api.Post{At: at}
		for i := range 3 {
			l := list(stands(a, 1), stands(b, 0, 2), stands(c, 1, 3))
			l[i].At = at
			wrong = append(wrong, l)
		}
		wrong = append(wrong, list(odd), list(api.Post{Key: d, At: at}))
	}
	return wrong
}

func TestMay(t *testing.T) {
	for _, l := range mayBe() {
		if !May(l) || !May(roomy(l)) {
			t.Errorf("P10.1: May of %v is false", l)
		}
	}
	for _, l := range mayNotBe() {
		if May(l) || May(roomy(l)) {
			t.Errorf("P10.1: May of %v is true", l)
		}
	}
}

// asked asks the Keys of lists that And, Or and Phrase tell.
func asked(t *testing.T, name string, ls [][]api.Post, and, or, phrase []api.Key) {
	t.Helper()
	check := unchanged(t, name, ls...)
	if got := And(ls...); !slices.Equal(got, and) {
		t.Errorf("P10.1: And, %s: %v", name, got)
	}
	if got := Or(ls...); !slices.Equal(got, or) {
		t.Errorf("P10.1: Or, %s: %v", name, got)
	}
	if got := Phrase(ls...); !slices.Equal(got, phrase) {
		t.Errorf("P10.1: Phrase, %s: %v", name, got)
	}
	check()
}

func TestAndOrPhrase(t *testing.T) {
	abc := list(stands(a, 0, 3), stands(b, 1), stands(c, 2))
	acd := list(stands(a, 4), stands(c, 4), stands(d, 0))
	ac := list(stands(a, 5), stands(c, 4))
	be := list(stands(b, 2), stands(e, 1))
	for _, x := range []struct {
		name            string
		ls              [][]api.Post
		and, or, phrase []api.Key
	}{
		{"the chapter's example", lists(list(stands(a, 0, 3)), list(stands(a, 4))), some(a), some(a), some(a)},
		{"no list", nil, nil, nil, nil},
		{"no list, of no lists", lists(), nil, nil, nil},
		{"a nil list", lists(nil), nil, nil, nil},
		{"an empty list", lists(list()), nil, nil, nil},
		{"nil and empty ones", lists(nil, list(), nil), nil, nil, nil},
		{"one list", lists(abc), some(a, b, c), some(a, b, c), some(a, b, c)},
		{"one list of one", lists(list(stands(d, 5))), some(d), some(d), some(d)},
		{"two", lists(abc, acd), some(a, c), some(a, b, c, d), some(a)},
		{"two, the other way round", lists(acd, abc), some(a, c), some(a, b, c, d), nil},
		{"three", lists(abc, acd, ac), some(a, c), some(a, b, c, d), some(a)},
		{"three, the last one first", lists(ac, abc, acd), some(a, c), some(a, b, c, d), nil},
		{"four, none common", lists(abc, acd, ac, be), nil, some(a, b, c, d, e), nil},
		{"two, one common", lists(abc, be), some(b), some(a, b, c, e), some(b)},
		{"two, none common", lists(ac, be), nil, some(a, b, c, e), nil},
		{"two, the one behind the other", lists(list(stands(a, 0), stands(b, 0)), list(stands(c, 1), stands(d, 1))), nil, some(a, b, c, d), nil},
		{"two, the one ahead of the other", lists(list(stands(c, 0), stands(d, 0)), list(stands(a, 1), stands(b, 1))), nil, some(a, b, c, d), nil},
		{"two, the one within the other", lists(abc, list(stands(b, 2))), some(b), some(a, b, c), some(b)},
		{"a nil one behind", lists(abc, nil), nil, some(a, b, c), nil},
		{"a nil one ahead", lists(nil, abc), nil, some(a, b, c), nil},
		{"an empty one between", lists(abc, list(), acd), nil, some(a, b, c, d), nil},
		{"the same one twice", lists(abc, abc), some(a, b, c), some(a, b, c), nil},
		{"the same one three times", lists(abc, abc, abc), some(a, b, c), some(a, b, c), nil},
		{"the same one twice, whose places follow", lists(list(stands(a, 3, 4), stands(b, 1, 3)), list(stands(a, 3, 4), stands(b, 1, 3))), some(a, b), some(a, b), some(a)},
		{"pairs in common, but none of all", lists(list(stands(a, 0), stands(b, 0)), list(stands(b, 1), stands(c, 1)), list(stands(a, 2), stands(c, 2))), nil, some(a, b, c), nil},
		{"the same number of other origins", lists(list(stands(key(0, 5), 0), stands(key(1, 5), 0), stands(key(2, 5), 0)), list(stands(key(1, 5), 1), stands(key(7, 5), 1))),
			some(key(1, 5)), some(key(0, 5), key(1, 5), key(2, 5), key(7, 5)), some(key(1, 5))},
		{"Keys at both ends", lists(list(stands(least, 0), stands(a, 0), stands(greatest, 0)), list(stands(least, 1), stands(key(math.MaxInt, 0), 1), stands(greatest, 1))),
			some(least, greatest), some(least, a, key(math.MaxInt, 0), greatest), some(least, greatest)},
	} {
		asked(t, x.name, x.ls, x.and, x.or, x.phrase)
	}
}

func TestPhraseIsOfPlacesThatFollow(t *testing.T) {
	const end = math.MaxInt
	for _, x := range []struct {
		ats    [][]int
		phrase bool
	}{
		{[][]int{{0}}, true}, {[][]int{{end}}, true}, {[][]int{{3, 8}}, true},
		{[][]int{{0}, {1}}, true}, {[][]int{{6}, {7}}, true},
		{[][]int{{0}, {0}}, false}, {[][]int{{1}, {0}}, false}, {[][]int{{0}, {2}}, false}, {[][]int{{5}, {5}}, false}, {[][]int{{5}, {7}}, false},
		{[][]int{{0, 3}, {4}}, true}, {[][]int{{0, 3}, {1}}, true}, {[][]int{{0, 3, 6}, {4}}, true}, {[][]int{{3}, {1, 4, 9}}, true}, {[][]int{{3}, {2, 3, 5}}, false},
		{[][]int{{0, 3, 6}, {2, 5, 8}}, false}, {[][]int{{0, 3, 6}, {1, 4, 7}}, true}, {[][]int{{0, 3, 6}, {0, 2, 6, 7}}, true}, {[][]int{{1, 2, 3}, {0, 1}}, false}, {[][]int{{1, 2, 3}, {0, 1, 2}}, true},
		{[][]int{{0}, {1}, {2}}, true}, {[][]int{{0}, {1}, {1}}, false}, {[][]int{{0}, {1}, {0}}, false}, {[][]int{{0}, {1}, {3}}, false}, {[][]int{{2}, {1}, {0}}, false}, {[][]int{{0}, {2}, {1}}, false}, {[][]int{{0}, {2}, {4}}, false},
		// Each one follows the one ahead of it somewhere, but not all of them one another.
		{[][]int{{0}, {1, 6}, {7}}, false}, {[][]int{{0, 6}, {1, 7}, {4, 8}}, true}, {[][]int{{0, 2}, {1, 3}, {4}}, true}, {[][]int{{0, 2}, {1, 4}, {3, 5}}, false},
		{[][]int{{0, 5, 10}, {1, 6, 11}, {2, 7, 12}, {8}}, true}, {[][]int{{0, 5, 10}, {1, 6, 11}, {2, 7, 12}, {4, 9, 14}}, false}, {[][]int{{1, 2, 3}, {2, 3}, {3, 4}, {4, 5}, {5, 6}, {7}}, true},
		// Nothing follows the greatest place.
		{[][]int{{end - 1}, {end}}, true}, {[][]int{{end - 2}, {end - 1}, {end}}, true}, {[][]int{{0, end - 1}, {0, end}}, true},
		{[][]int{{end}, {end}}, false}, {[][]int{{end}, {0}}, false}, {[][]int{{end}, {0, 1, end}}, false}, {[][]int{{0}, {end}}, false}, {[][]int{{end}, {end - 1}}, false},
		{[][]int{{end - 1}, {end}, {0}}, false}, {[][]int{{end - 1}, {end}, {0, 1, end}}, false}, {[][]int{{end}, {0}, {1}}, false}, {[][]int{{0, end}, {0, end}}, false}, {[][]int{{end - 1, end}, {end - 1, end}}, true}, {[][]int{{end - 1, end}, {end - 1, end}, {0, 1, end}}, false},
	} {
		// The words stand there with one Key alone, and among others in which they don't follow one another.
		var ls, among [][]api.Post
		for _, at := range x.ats {
			ls = append(ls, list(api.Post{Key: b, At: at}))
			among = append(among, list(stands(a, 20), api.Post{Key: b, At: at}, stands(c, 20)))
		}
		var want []api.Key
		if x.phrase {
			want = some(b)
		}
		if got := Phrase(ls...); !slices.Equal(got, want) {
			t.Errorf("P10.1: Phrase of %v: %v", x.ats, got)
		}
		if len(x.ats) == 1 {
			want = some(a, b, c)
		}
		if got := Phrase(among...); !slices.Equal(got, want) {
			t.Errorf("P10.1: Phrase of %v, among others: %v", x.ats, got)
		}
	}
}

func TestNoneOfListsOfWhichOneMayNotBe(t *testing.T) {
	good, next := list(stands(a, 0), stands(b, 1), stands(c, 2), stands(d, 3)), list(stands(a, 1), stands(b, 2), stands(c, 3), stands(d, 4))
	for _, odd := range mayNotBe() {
		for _, ls := range [][][]api.Post{
			lists(odd), lists(odd, odd), lists(odd, good), lists(good, odd), lists(odd, good, next), lists(good, odd, next), lists(good, next, odd),
			lists(odd, nil), lists(nil, odd), lists(nil, odd, nil), lists(good, nil, odd), lists(odd, nil, good), lists(good, next, good, next, odd), lists(odd, good, odd),
		} {
			asked(t, "one may not be", ls, nil, nil, nil)
		}
	}
}

func TestLess(t *testing.T) {
	for _, x := range []struct {
		name            string
		all, some, want []api.Key
	}{
		{"nothing", nil, nil, nil},
		{"nothing, in lists", some(), some(), nil},
		{"of none", nil, some(a), nil},
		{"of none, less many", some(), some(a, b, a), nil},
		{"less none", some(a, b), nil, some(a, b)},
		{"less none, falling", some(d, a, c), some(), some(d, a, c)},
		{"less one", some(a, b, c), some(b), some(a, c)},
		{"less the first one", some(a, b, c), some(a), some(b, c)},
		{"less the last one", some(a, b, c), some(c), some(a, b)},
		{"less all", some(a, b, c), some(a, b, c), nil},
		{"less all, in another order", some(c, a, b), some(b, c, a), nil},
		{"less others", some(a, c), some(b, d, e), some(a, c)},
		{"less more than all", some(b), some(a, b, c), nil},
		{"of any order", some(d, b, a, c), some(c, e, b), some(d, a)},
		{"several times in all", some(d, b, d, a, b), some(b), some(d, d, a)},
		{"several times among some", some(a, b, c), some(c, a, c, a), some(b)},
		{"several times on both sides", some(b, a, b, c, a, b), some(a, c, a), some(b, b, b)},
		{"the same number of another origin", some(key(0, 1), key(1, 0), key(1, 1)), some(key(1, 1), key(2, 1)), some(key(0, 1), key(1, 0))},
		{"Keys of no record", some(greatest, key(0, 0), least, key(-1, 3)), some(least, key(3, -1)), some(greatest, key(0, 0), key(-1, 3))},
	} {
		if got := Less(x.all, x.some); !slices.Equal(got, x.want) {
			t.Errorf("P10.1: Less, %s: %v", x.name, got)
		}
	}
}

func TestPut(t *testing.T) {
	bcd := list(stands(b, 0, 3), stands(c, 1), stands(d, 2))
	for _, x := range []struct {
		name string
		l    []api.Post
		p    api.Post
		want []api.Post
	}{
		{"into nil", nil, stands(c, 7), list(stands(c, 7))},
		{"into none", list(), stands(c, 7, 9), list(stands(c, 7, 9))},
		{"ahead of all", bcd, stands(a, 4), list(stands(a, 4), stands(b, 0, 3), stands(c, 1), stands(d, 2))},
		{"behind the first one", bcd, stands(key(0, 9), 4), list(stands(b, 0, 3), stands(key(0, 9), 4), stands(c, 1), stands(d, 2))},
		{"ahead of the last one", bcd, stands(key(1, 2), 4), list(stands(b, 0, 3), stands(c, 1), stands(key(1, 2), 4), stands(d, 2))},
		{"behind all", bcd, stands(e, 4, 5), list(stands(b, 0, 3), stands(c, 1), stands(d, 2), stands(e, 4, 5))},
		{"instead of the first one", bcd, stands(b, 4), list(stands(b, 4), stands(c, 1), stands(d, 2))},
		{"instead of the middle one", bcd, stands(c, 4, 5, 6), list(stands(b, 0, 3), stands(c, 4, 5, 6), stands(d, 2))},
		{"instead of the last one", bcd, stands(d, 0), list(stands(b, 0, 3), stands(c, 1), stands(d, 0))},
		{"instead of the only one", list(stands(c, 1)), stands(c, 2), list(stands(c, 2))},
		{"instead of the same one", bcd, stands(c, 1), bcd},
		{"ahead of one", list(stands(c, 1)), stands(b, 1), list(stands(b, 1), stands(c, 1))},
		{"behind one", list(stands(c, 1)), stands(d, 1), list(stands(c, 1), stands(d, 1))},
		{"the least Key", bcd, stands(least, 0), list(stands(least, 0), stands(b, 0, 3), stands(c, 1), stands(d, 2))},
		{"the greatest Key", bcd, stands(greatest, 0, math.MaxInt), list(stands(b, 0, 3), stands(c, 1), stands(d, 2), stands(greatest, 0, math.MaxInt))},
		{"a Key of zeros", bcd, stands(key(0, 0), 0), list(stands(key(0, 0), 0), stands(b, 0, 3), stands(c, 1), stands(d, 2))},
	} {
		if got := Put(x.l, x.p); !equal(got, x.want) {
			t.Errorf("P10.1: Put, %s: %v", x.name, got)
		}
	}
}

func TestPutOfWhatMayNotBe(t *testing.T) {
	for _, at := range wrongPlaces() {
		for _, k := range some(a, b, c, d, e, least, greatest) {
			p := api.Post{Key: k, At: at}
			for _, l := range mayBe() {
				if got := Put(l, p); !equal(got, l) {
					t.Errorf("P10.1: Put of %v into %v: %v", p, l, got)
				}
			}
			if got := Put(list(stands(b, 1), stands(a, 1)), p); len(got) != 0 {
				t.Errorf("P10.1: Put of %v into a list that may not be: %v", p, got)
			}
		}
	}
}

func TestPutIntoAndDropFromWhatMayNotBe(t *testing.T) {
	for _, l := range mayNotBe() {
		// The Keys that stand there are among them: what would mend the list mends nothing.
		for _, k := range some(a, b, c, d, e, key(0, 0), least, greatest) {
			if got := Put(l, stands(k, 5)); len(got) != 0 {
				t.Errorf("P10.1: Put of %v into %v: %v", k, l, got)
			}
			if got := Put(l, stands(k)); len(got) != 0 {
				t.Errorf("P10.1: Put of %v without places into %v: %v", k, l, got)
			}
			if got := Drop(l, k); len(got) != 0 {
				t.Errorf("P10.1: Drop of %v from %v: %v", k, l, got)
			}
		}
	}
}

func TestDrop(t *testing.T) {
	bcd := list(stands(b, 0, 3), stands(c, 1), stands(d, 2))
	for _, x := range []struct {
		name string
		l    []api.Post
		k    api.Key
		want []api.Post
	}{
		{"the first one", bcd, b, list(stands(c, 1), stands(d, 2))},
		{"the middle one", bcd, c, list(stands(b, 0, 3), stands(d, 2))},
		{"the last one", bcd, d, list(stands(b, 0, 3), stands(c, 1))},
		{"the only one", list(stands(c, 1)), c, nil},
		{"one ahead of all", bcd, a, bcd},
		{"one between", bcd, key(1, 0), bcd},
		{"one behind all", bcd, e, bcd},
		{"of the same number", bcd, key(0, 1), bcd},
		{"of another origin", bcd, key(1, 2), bcd},
		{"the least Key", bcd, least, bcd},
		{"the greatest Key", bcd, greatest, bcd},
		{"the greatest Key, that is there", list(stands(b, 1), stands(greatest, 1)), greatest, list(stands(b, 1))},
		{"of zeros", bcd, key(0, 0), bcd},
		{"from nil", nil, c, nil},
		{"from none", list(), c, nil},
	} {
		if got := Drop(x.l, x.k); !equal(got, x.want) {
			t.Errorf("P10.1: Drop, %s: %v", x.name, got)
		}
	}
}

// TestKeysShareNothing asks R4 of what answers Keys of lists.
func TestKeysShareNothing(t *testing.T) {
	odd := list(stands(b, 1), stands(a, 1))
	for _, x := range []struct {
		name string
		call func(...[]api.Post) []api.Key
	}{{"And", And}, {"Or", Or}, {"Phrase", Phrase}} {
		for _, plain := range [][][]api.Post{
			lists(list(stands(a, 0, 3), stands(b, 2, 5))), lists(list(stands(a, 0, 3), stands(c, 1)), list(stands(a, 4), stands(b, 2), stands(c, 2))),
			lists(list(stands(a, 1)), list(stands(a, 2)), list(stands(a, 3), stands(b, 1))), lists(list(stands(a, 1)), odd), lists(nil, list(), list(stands(d, 1))),
		} {
			var ls [][]api.Post
			for _, l := range plain {
				ls = append(ls, roomy(l))
			}
			want := slices.Clone(x.call(plain...))
			check := unchanged(t, x.name, ls...)
			one, other := x.call(ls...), x.call(ls...)
			check()
			spoilKeys(one)
			check()
			for _, l := range ls {
				spoil(l)
			}
			if !slices.Equal(other, want) {
				t.Errorf("R4: %s of %v: another answer or an argument changed %v", x.name, plain, other)
			}
		}
	}
}

// TestListsOfListsAreKept: the list of lists that is handed in stays as it is, too.
func TestListsOfListsAreKept(t *testing.T) {
	room := lists(list(stands(a, 0)), list(stands(a, 1)), list(stands(b, 9)), nil)
	asked(t, "the first two", room[:2], some(a), some(a), some(a))
	for i, want := range lists(list(stands(a, 0)), list(stands(a, 1)), list(stands(b, 9)), nil) {
		if !equal(room[i], want) {
			t.Errorf("R4: the %d-th list is %v", i, room[i])
		}
	}
}

func TestLessSharesNothing(t *testing.T) {
	for _, x := range []struct{ all, some, want []api.Key }{
		{some(a, b, c), some(b), some(a, c)}, {some(a, b, c), nil, some(a, b, c)}, {some(a, b, c), some(d), some(a, b, c)}, {some(a, b), some(a, b), nil}, {nil, some(a), nil},
	} {
		room, others := append(slices.Clone(x.all), d, d, d), append(slices.Clone(x.some), e, e)
		wasAll, wasSome := slices.Clone(room), slices.Clone(others)
		all, less := room[:len(x.all)], others[:len(x.some)]
		one, other := Less(all, less), Less(all, less)
		spoilKeys(one)
		if !slices.Equal(room, wasAll) || !slices.Equal(others, wasSome) {
			t.Errorf("R4: Less of %v and %v changed them to %v and %v", x.all, x.some, room, others)
		}
		spoilKeys(room)
		spoilKeys(others)
		if !slices.Equal(other, x.want) {
			t.Errorf("R4: Less of %v and %v: another answer or an argument changed %v", x.all, x.some, other)
		}
	}
}

// TestListsShareNothing asks R4 of what answers lists, of the places of each Post too.
func TestListsShareNothing(t *testing.T) {
	for _, l := range append(mayBe(), mayNotBe()...) {
		for _, p := range list(stands(a, 5, 6), stands(b, 5), stands(c, 5), stands(d, 5), stands(greatest, 5), stands(b), stands(c, 3, 3), stands(e, -1)) {
			sharesNothing(t, "Put", l, p, func(l []api.Post, p api.Post) []api.Post { return Put(l, p) })
			sharesNothing(t, "Drop", l, p, func(l []api.Post, p api.Post) []api.Post { return Drop(l, p.Key) })
		}
	}
}

// sharesNothing asks that neither what is handed to a call nor another answer of it is changed by what it answers, nor the other way round.
func sharesNothing(t *testing.T, name string, l []api.Post, p api.Post, call func([]api.Post, api.Post) []api.Post) {
	t.Helper()
	want := alone(call(alone(l), p))
	room, posts := roomy(l), roomy(list(p))
	check := unchanged(t, name, room, posts)
	one, other := call(room, posts[0]), call(room, posts[0])
	check()
	inOneAnswer(t, name, alone(want), one)
	spoil(one)
	check()
	spoil(room)
	spoil(posts)
	if !equal(other, want) {
		t.Errorf("R4: %s of %v and %v: another answer or an argument changed %v", name, l, p, other)
	}
}

// inOneAnswer asks that no two Posts of an answer share places: it changes one after another, with the room behind it.
func inOneAnswer(t *testing.T, name string, want, got []api.Post) {
	t.Helper()
	for i, p := range got {
		at := p.At[:cap(p.At)]
		for j := range at {
			at[j] = -9
		}
		for j := i + 1; j < len(got); j++ {
			if !slices.Equal(got[j].At, want[j].At) {
				t.Fatalf("R4: in what %s answers, places of %v changed those of %v", name, p.Key, got[j].Key)
			}
		}
	}
}

// inOrder tells whether k is ahead of m, written down apart from the program's own way.
func inOrder(k, m api.Key) bool {
	return k.Origin < m.Origin || k.Origin == m.Origin && k.Seq < m.Seq
}

// told is a list as it must be, told apart from the program's own way: each two of its Keys, and of a Post's places, are held against each other.
func told(l []api.Post) bool {
	for i, p := range l {
		for _, q := range l[:i] {
			if !inOrder(q.Key, p.Key) {
				return false
			}
		}
		for j, place := range p.At {
			if place < 0 || slices.Max(p.At[:j+1]) > place || slices.Contains(p.At[:j], place) {
				return false
			}
		}
		if len(p.At) == 0 {
			return false
		}
	}
	return true
}

// placesOf are those that a list has for a Key.
func placesOf(l []api.Post, k api.Key) []int {
	for _, p := range l {
		if p.Key == k {
			return p.At
		}
	}
	return nil
}

// follow tells whether the places of k in the lists follow one another from somewhere on.
func follow(ls [][]api.Post, k api.Key) bool {
	for _, first := range placesOf(ls[0], k) {
		all := true
		for i, l := range ls {
			all = all && slices.Contains(placesOf(l, k), first+i)
		}
		if all {
			return true
		}
	}
	return false
}

// anyList is a small list of some Keys and places; one of a few may not be.
func anyList(r *rand.Rand, ks []api.Key) []api.Post {
	var l []api.Post
	for _, k := range ks {
		p := api.Post{Key: k}
		for place := range 6 {
			if r.IntN(2) == 0 {
				p.At = append(p.At, place)
			}
		}
		if len(p.At) > 0 && r.IntN(4) > 0 {
			l = append(l, p)
		}
	}
	if len(l) > 0 && r.IntN(12) == 0 {
		i := r.IntN(len(l))
		at := l[i].At
		switch r.IntN(4) {
		case 0:
			at[r.IntN(len(at))] = r.IntN(8) - 2
		case 1:
			l[i].At = nil
		default:
			l[i].Key = ks[r.IntN(len(ks))]
		}
	}
	return l
}

// TestAnyLists holds the calls against what is told one by one.
func TestAnyLists(t *testing.T) {
	r := rand.New(rand.NewPCG(10, 1))
	ks := some(key(0, 1), key(0, 2), key(0, 7), key(1, 1), key(1, 2), key(5, 1))
	wrong, phrases := 0, 0
	for range 20000 {
		var ls [][]api.Post
		may := true
		for range r.IntN(5) {
			l := anyList(r, ks)
			if May(l) != told(l) {
				t.Fatalf("P10.1: May of %v is %v", l, May(l))
			}
			ls, may = append(ls, l), may && told(l)
		}
		var and, or, phrase []api.Key
		for _, k := range ks {
			there := 0
			for _, l := range ls {
				if len(placesOf(l, k)) > 0 {
					there++
				}
			}
			if may && there > 0 {
				or = append(or, k)
			}
			if may && there > 0 && there == len(ls) {
				and = append(and, k)
			}
			if may && there > 0 && follow(ls, k) {
				phrase = append(phrase, k)
			}
		}
		asked(t, "any lists", ls, and, or, phrase)
		if t.Failed() {
			t.Fatalf("of %v", ls)
		}
		if !may {
			wrong++
		}
		if len(phrase) > 0 {
			phrases++
		}
	}
	if wrong < 1000 || phrases < 1000 {
		t.Errorf("%d with one that may not be, %d with a phrase", wrong, phrases)
	}
}

// TestPutAndDropInAnyOrder holds a list that grows and shrinks against a map of what it must have.
func TestPutAndDropInAnyOrder(t *testing.T) {
	r := rand.New(rand.NewPCG(10, 2))
	var l []api.Post
	must := map[api.Key][]int{}
	for range 20000 {
		k := key(r.IntN(4), r.IntN(6))
		if r.IntN(2) == 0 {
			l = Drop(l, k)
			delete(must, k)
		} else {
			at := []int{r.IntN(9), r.IntN(9)}
			l = Put(l, api.Post{Key: k, At: at})
			if at[0] < at[1] {
				must[k] = at
			}
		}
		if !told(l) || len(l) != len(must) {
			t.Fatalf("P10.1: a list of %d that must have %d: %v", len(l), len(must), l)
		}
		for _, p := range l {
			if !slices.Equal(p.At, must[p.Key]) {
				t.Fatalf("P10.1: %v must stand at %v", p, must[p.Key])
			}
		}
	}
}

// TestOfSize asks for what ends within moments, where counting each against each would not.
func TestOfSize(t *testing.T) {
	const many = 200000
	long, next, same := list(), list(), lists()
	var ks []api.Key
	for i := range many {
		k := key(i/1000, i%1000)
		long, next, ks = append(long, stands(k, i, i+5)), append(next, stands(k, i+6)), append(ks, k)
		same = append(same, list(stands(a, i), stands(key(9, i), 0)))
	}
	if !slices.Equal(And(long, next, long), ks) || !slices.Equal(Or(long, next), ks) || !slices.Equal(Phrase(long, next), ks) {
		t.Error("P10.1: long lists")
	}
	if And(same...)[0] != a || len(And(same...)) != 1 || len(Or(same...)) != many+1 || !slices.Equal(Phrase(same...), some(a)) {
		t.Error("P10.1: many lists")
	}
	if len(Less(ks, ks)) != 0 || len(Less(ks, ks[many/2:])) != many/2 {
		t.Error("P10.1: Less of many")
	}
	places := make([]int, many)
	for i := range places {
		places[i] = 2 * i
	}
	if word := list(stands(a, places...)); len(Phrase(word, word)) != 0 || len(Phrase(word, list(stands(a, 2*many-1)))) != 1 {
		t.Error("P10.1: many places")
	}
	if len(Put(long, stands(key(1, 5000), 1))) != many+1 || len(Drop(long, key(1, 5))) != many-1 {
		t.Error("P10.1: Put and Drop of many")
	}
}

func TestManyAtOneTime(t *testing.T) {
	l, m := list(stands(a, 0, 3), stands(c, 1)), list(stands(a, 4), stands(b, 1))
	var all sync.WaitGroup
	for range 8 {
		all.Go(func() {
			for range 200 {
				if !May(l) || !slices.Equal(And(l, m), some(a)) || !slices.Equal(Or(l, m), some(a, b, c)) || !slices.Equal(Phrase(l, m), some(a)) ||
					!slices.Equal(Less(some(a, b), some(a)), some(b)) || len(Put(l, stands(b, 1))) != 3 || len(Drop(l, a)) != 1 {
					t.Error("R5: plain functions at one time")
				}
			}
		})
	}
	all.Wait()
}
