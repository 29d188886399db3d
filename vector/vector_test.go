package vector

import (
	"math"
	"slices"
	"sync"
	"testing"

	"grapevine/api"
)

// filled is a vector of n numbers that are all x.
func filled(n, x int) []int {
	return slices.Repeat([]int{x}, n)
}

// with is v, but that its i-th number is x.
func with(v []int, i, x int) []int {
	v = slices.Clone(v)
	v[i] = x
	return v
}

// unchanged asks that vectors, with the room behind them, are as they were ahead of a call.
func unchanged(t *testing.T, name string, vs ...[]int) func() {
	var before [][]int
	for _, v := range vs {
		before = append(before, slices.Clone(v[:cap(v)]))
	}
	return func() {
		t.Helper()
		for i, v := range vs {
			if !slices.Equal(before[i], v[:cap(v)]) {
				t.Errorf("R4: %s changed %v to %v", name, before[i], v[:cap(v)])
			}
		}
	}
}

// roomy is v with room behind it that holds numbers.
func roomy(v ...int) []int {
	room := append(slices.Clone(v), 7, 7, 7)
	return room[:len(v)]
}

func TestMay(t *testing.T) {
	for n := 1; n <= api.MaxNodes; n++ {
		for _, x := range []int{0, 1, 5, api.MaxSeq - 1, api.MaxSeq} {
			if !May(filled(n, x), n) {
				t.Errorf("P3.1: May of %d times %d is false", n, x)
			}
			for i := range n {
				if !May(with(filled(n, 3), i, x), n) {
					t.Errorf("P3.1: May with %d at %d of %d is false", x, i, n)
				}
			}
		}
	}
}

func TestMayNot(t *testing.T) {
	for n := 1; n <= api.MaxNodes; n++ {
		for _, x := range []int{-1, api.MaxSeq + 1, math.MinInt, math.MaxInt} {
			for i := range n {
				if May(with(filled(n, 3), i, x), n) {
					t.Errorf("P3.1: May with %d at %d of %d is true", x, i, n)
				}
			}
		}
		if May(filled(n-1, 0), n) || May(filled(n+1, 0), n) || May(nil, n) {
			t.Errorf("P3.1: May of other than %d numbers is true", n)
		}
	}
	for _, x := range []struct {
		v []int
		n int
	}{
		{nil, 0}, {[]int{}, 0}, {[]int{0}, 0}, {filled(api.MaxNodes+1, 0), api.MaxNodes + 1},
		{filled(api.MaxNodes, 0), api.MaxNodes + 1}, {nil, -1}, {[]int{0}, -1},
		{nil, math.MinInt}, {[]int{0}, math.MaxInt},
	} {
		if May(x.v, x.n) {
			t.Errorf("P3.1: May(%v, %d) is true", x.v, x.n)
		}
	}
}

func TestZero(t *testing.T) {
	for n := 1; n <= api.MaxNodes; n++ {
		v := Zero(n)
		if !slices.Equal(v, filled(n, 0)) || !May(v, n) {
			t.Errorf("P3.1: Zero(%d): %v", n, v)
		}
		v[0] = 9
		if again := Zero(n); again[0] != 0 {
			t.Errorf("R4: Zero(%d) shares memory: %v", n, again)
		}
	}
	for _, n := range []int{0, -1, api.MaxNodes + 1, math.MinInt, math.MaxInt} {
		if v := Zero(n); len(v) != 0 {
			t.Errorf("P3.1: Zero(%d): %v", n, v)
		}
	}
}

func TestJoinAndMeet(t *testing.T) {
	for _, x := range []struct {
		name       string
		vs         [][]int
		join, meet []int
	}{
		{"none", nil, nil, nil},
		{"none, in a list", [][]int{}, nil, nil},
		{"one", [][]int{{5, 2}}, []int{5, 2}, []int{5, 2}},
		{"one of one number", [][]int{{5}}, []int{5}, []int{5}},
		{"one below zero", [][]int{{-5, 2}}, []int{-5, 2}, []int{-5, 2}},
		{"two", [][]int{{5, 2}, {3, 4}}, []int{5, 4}, []int{3, 2}},
		{"two, the other way round", [][]int{{3, 4}, {5, 2}}, []int{5, 4}, []int{3, 2}},
		{"two that are equal", [][]int{{5, 2}, {5, 2}}, []int{5, 2}, []int{5, 2}},
		{"two, the second one above", [][]int{{5, 2}, {6, 2}}, []int{6, 2}, []int{5, 2}},
		{"two below zero", [][]int{{-5, -2}, {-3, -4}}, []int{-3, -2}, []int{-5, -4}},
		{"three", [][]int{{5, 2, 7}, {3, 4, 8}, {9, 0, 6}}, []int{9, 4, 8}, []int{3, 0, 6}},
		{"three, the middle one ahead", [][]int{{1, 1}, {9, 0}, {2, 2}}, []int{9, 2}, []int{1, 0}},
		{"to the limits", [][]int{filled(api.MaxNodes, 0), filled(api.MaxNodes, api.MaxSeq)}, filled(api.MaxNodes, api.MaxSeq), filled(api.MaxNodes, 0)},
		{"beyond the limits", [][]int{filled(20, math.MinInt), filled(20, math.MaxInt)}, filled(20, math.MaxInt), filled(20, math.MinInt)},
		{"an empty one", [][]int{{}}, nil, nil},
		{"a nil one", [][]int{nil}, nil, nil},
		{"empty ones", [][]int{{}, nil, {}}, nil, nil},
		{"the second one shorter", [][]int{{5, 2}, {3}}, nil, nil},
		{"the second one longer", [][]int{{5, 2}, {3, 4, 5}}, nil, nil},
		{"the last one shorter", [][]int{{5, 2}, {3, 4}, {1}}, nil, nil},
		{"the last one longer", [][]int{{5}, {3}, {1, 2}}, nil, nil},
		{"the middle one unlike", [][]int{{5, 2}, {3}, {1, 2}}, nil, nil},
		{"an empty one behind", [][]int{{5, 2}, nil}, nil, nil},
		{"an empty one ahead", [][]int{nil, {5, 2}}, nil, nil},
	} {
		if got := Join(x.vs...); !slices.Equal(got, x.join) {
			t.Errorf("P3.1: Join, %s: %v", x.name, got)
		}
		if got := Meet(x.vs...); !slices.Equal(got, x.meet) {
			t.Errorf("P3.1: Meet, %s: %v", x.name, got)
		}
	}
}

func TestJoinAndMeetShareNothing(t *testing.T) {
	for _, vs := range [][][]int{
		{roomy(5, 2)},
		{roomy(5, 2), roomy(3, 4)},
		{roomy(3, 4), roomy(5, 2), roomy(1, 9)},
		{roomy(5, 2), roomy(3)},
		{roomy(), roomy()},
	} {
		for _, call := range []func(...[]int) []int{Join, Meet} {
			check := unchanged(t, "Join or Meet", vs...)
			got := call(vs...)
			check()
			for i := range got {
				got[i] = -9
			}
			// What is put behind the answer must not run into an argument's room either.
			_ = append(got, -9, -9, -9, -9)
			check()
		}
	}
	same := []int{5, 2}
	one, another := Join(same), Join(same)
	one[0] = 9
	if another[0] != 5 || same[0] != 5 {
		t.Errorf("R4: two answers of Join share memory: %v, %v", another, same)
	}
}

func TestBelow(t *testing.T) {
	for _, x := range []struct {
		a, b []int
		want bool
	}{
		{nil, nil, true},
		{nil, []int{}, true},
		{[]int{0}, []int{0}, true},
		{[]int{1, 2}, []int{1, 2}, true},
		{[]int{1, 2}, []int{1, 3}, true},
		{[]int{1, 2}, []int{2, 2}, true},
		{[]int{0, 0}, []int{api.MaxSeq, api.MaxSeq}, true},
		{[]int{-4, 2}, []int{-3, 2}, true},
		{filled(20, math.MinInt), filled(20, math.MaxInt), true},
		{[]int{2, 2}, []int{1, 9}, false},
		{[]int{1, 9}, []int{2, 8}, false},
		{[]int{1, 2, 3}, []int{1, 1, 3}, false},
		{[]int{api.MaxSeq}, []int{api.MaxSeq - 1}, false},
		{[]int{-3}, []int{-4}, false},
		{[]int{1}, []int{1, 2}, false},
		{[]int{1, 2}, []int{1}, false},
		{nil, []int{1}, false},
		{[]int{1}, nil, false},
	} {
		check := unchanged(t, "Below", x.a, x.b)
		if Below(x.a, x.b) != x.want {
			t.Errorf("P3.1: Below(%v, %v) is not %v", x.a, x.b, x.want)
		}
		check()
	}
}

func TestSum(t *testing.T) {
	for _, x := range []struct {
		v    []int
		want int
	}{
		{nil, 0}, {[]int{}, 0}, {[]int{4}, 4}, {[]int{3, 4, 5}, 12}, {[]int{3, 4, -1}, 6}, {[]int{-3, -4}, -7},
		{filled(api.MaxNodes, api.MaxSeq), api.MaxNodes * api.MaxSeq}, {filled(1000, 1), 1000},
	} {
		check := unchanged(t, "Sum", x.v)
		if got := Sum(x.v); got != x.want {
			t.Errorf("P3.1: Sum(%v): %d", x.v, got)
		}
		check()
	}
	if got := Sum(roomy(1, 2)); got != 3 {
		t.Errorf("P3.1: Sum counts what is behind the vector: %d", got)
	}
}

func TestLack(t *testing.T) {
	for _, x := range []struct {
		name              string
		mine, yours, from []int
		want              []api.Span
	}{
		{"the chapter's example", []int{5, 2}, []int{3, 2}, []int{4, 0}, []api.Span{{Origin: 0, From: 5, Many: 1}}},
		{"yours is the greater one", []int{5}, []int{3}, []int{1}, []api.Span{{Origin: 0, From: 4, Many: 2}}},
		{"from is the greater one", []int{5}, []int{1}, []int{3}, []api.Span{{Origin: 0, From: 4, Many: 2}}},
		{"both are the same", []int{5}, []int{3}, []int{3}, []api.Span{{Origin: 0, From: 4, Many: 2}}},
		{"all of it", []int{5}, []int{0}, []int{0}, []api.Span{{Origin: 0, From: 1, Many: 5}}},
		{"each its own", []int{5, 2, 7, 1}, []int{3, 0, 7, 0}, []int{0, 1, 0, 0}, []api.Span{
			{Origin: 0, From: 4, Many: 2}, {Origin: 1, From: 2, Many: 1}, {Origin: 3, From: 1, Many: 1}}},
		{"the last origin alone", []int{0, 0, 9}, []int{0, 0, 8}, []int{0, 0, 0}, []api.Span{{Origin: 2, From: 9, Many: 1}}},
		{"up to MaxSeq", []int{api.MaxSeq, api.MaxSeq}, []int{0, api.MaxSeq - 1}, []int{0, 0}, []api.Span{
			{Origin: 0, From: 1, Many: api.MaxSeq}, {Origin: 1, From: api.MaxSeq, Many: 1}}},
		{"nothing: yours is mine", []int{5, 2}, []int{5, 2}, []int{0, 0}, nil},
		{"nothing: yours is beyond mine", []int{5, 2}, []int{6, 9}, []int{0, 0}, nil},
		{"nothing: from is mine", []int{5, 2}, []int{0, 0}, []int{5, 2}, nil},
		{"nothing: from is beyond mine", []int{5, 2}, []int{0, 0}, []int{9, 3}, nil},
		{"nothing: all are zero", []int{0, 0}, []int{0, 0}, []int{0, 0}, nil},
		{"empty ones", nil, []int{}, nil, nil},
		{"mine shorter", []int{5}, []int{3, 0}, []int{0, 0}, nil},
		{"yours shorter", []int{5, 2}, []int{3}, []int{0, 0}, nil},
		{"from shorter", []int{5, 2}, []int{3, 0}, []int{0}, nil},
		{"mine longer", []int{5, 2, 1}, []int{3, 0}, []int{0, 0}, nil},
		{"yours longer", []int{5, 2}, []int{3, 0, 0}, []int{0, 0}, nil},
		{"from longer", []int{5, 2}, []int{3, 0}, []int{0, 0, 0}, nil},
		{"none of them alike", []int{5, 2}, []int{3}, nil, nil},
		{"mine nil", nil, []int{3}, []int{0}, nil},
		{"yours nil", []int{5}, nil, []int{0}, nil},
		{"from nil", []int{5}, []int{3}, nil, nil},
	} {
		check := unchanged(t, "Lack", x.mine, x.yours, x.from)
		if got := Lack(x.mine, x.yours, x.from); !slices.Equal(got, x.want) {
			t.Errorf("P3.1: Lack, %s: %v", x.name, got)
		}
		check()
	}
}

func TestLackAnswersNewMemory(t *testing.T) {
	mine, yours, from := roomy(5, 2), roomy(3, 0), roomy(0, 1)
	check := unchanged(t, "Lack", mine, yours, from)
	got := Lack(mine, yours, from)
	got[0] = api.Span{}
	check()
	if again := Lack(mine, yours, from); again[0] != (api.Span{Origin: 0, From: 4, Many: 2}) {
		t.Errorf("R4: another answer of Lack was changed: %v", again)
	}
}

// TestLawsOfManyVectors holds the calls against each other, and Lack against counting one by one.
func TestLawsOfManyVectors(t *testing.T) {
	n := 1
	next := func() []int {
		v := Zero(4)
		for i := range v {
			n = n * 48271 % 2147483647
			v[i] = n % 6
		}
		return v
	}
	for range 2000 {
		a, b, c := next(), next(), next()
		up, down := Join(a, b, c), Meet(a, b, c)
		for _, v := range [][]int{a, b, c} {
			if !Below(v, up) || !Below(down, v) {
				t.Fatalf("P3.1: %v is not from %v to %v", v, down, up)
			}
		}
		if Sum(Join(a, b))+Sum(Meet(a, b)) != Sum(a)+Sum(b) {
			t.Fatalf("P3.1: join and meet of %v and %v", a, b)
		}
		if got := counted(Lack(a, b, c)); !slices.Equal(got, lacking(a, b, c)) {
			t.Fatalf("P3.1: Lack(%v, %v, %v): %v", a, b, c, got)
		}
	}
}

// counted are the keys of spans, one by one.
func counted(spans []api.Span) []api.Key {
	var keys []api.Key
	for _, s := range spans {
		for i := range s.Many {
			keys = append(keys, api.Key{Origin: s.Origin, Seq: s.From + i})
		}
	}
	return keys
}

// lacking are the keys up to mine that are behind yours and behind from.
func lacking(mine, yours, from []int) []api.Key {
	var keys []api.Key
	for o := range mine {
		for s := 1; s <= mine[o]; s++ {
			if s > yours[o] && s > from[o] {
				keys = append(keys, api.Key{Origin: o, Seq: s})
			}
		}
	}
	return keys
}

func TestManyAtOneTime(t *testing.T) {
	a, b := []int{5, 2}, []int{3, 4}
	var all sync.WaitGroup
	for range 8 {
		all.Go(func() {
			for range 200 {
				if !slices.Equal(Join(a, b), []int{5, 4}) || !slices.Equal(Meet(a, b), []int{3, 2}) ||
					Below(a, b) || Sum(a) != 7 || len(Lack(a, b, Zero(2))) != 1 || !May(a, 2) {
					t.Error("R5: plain functions at one time")
				}
			}
		})
	}
	all.Wait()
}
