package stamp

import (
	"math"
	"slices"
	"sync"
	"testing"

	"grapevine/api"
)

// at is a short form of a stamp.
func at(wall, count int) api.Stamp { return api.Stamp{Wall: wall, Count: count} }

// mayNot are stamps that may not be: each field one past each bound, and far past it.
func mayNot() []api.Stamp {
	return []api.Stamp{
		at(-1, 0), at(api.MaxWall+1, 0), at(0, -1), at(0, api.MaxCount+1),
		at(-1, -1), at(api.MaxWall+1, api.MaxCount+1),
		at(math.MinInt, 0), at(math.MaxInt, 0), at(0, math.MinInt), at(0, math.MaxInt),
		at(math.MinInt, math.MinInt), at(math.MaxInt, math.MaxInt),
	}
}

// badWalls are walls that may not be.
func badWalls() []int {
	return []int{-1, api.MaxWall + 1, math.MinInt, math.MaxInt}
}

func TestMayAndNew(t *testing.T) {
	for _, s := range []api.Stamp{
		at(0, 0), at(1, 0), at(0, 1), at(5, 2), at(api.MaxWall-1, 7), at(api.MaxWall, 0),
		at(7, api.MaxCount-1), at(0, api.MaxCount), at(api.MaxWall, api.MaxCount),
	} {
		if !May(s) {
			t.Errorf("P2.1: May of %v is false", s)
		}
		if c := New(s); c == nil || c.Last() != s {
			t.Errorf("P2.1: New(%v) has not that as its Last", s)
		}
	}
	for _, s := range mayNot() {
		if May(s) {
			t.Errorf("P2.1: May of %v is true", s)
		}
		if New(s) != nil {
			t.Errorf("P2.1: New(%v) is not nil", s)
		}
	}
}

func TestLessIsByWallThenByCount(t *testing.T) {
	rising := []api.Stamp{
		at(math.MinInt, 5), at(-1, 0), at(0, -1), at(0, 0), at(0, 1), at(0, api.MaxCount), at(1, 0),
		at(3, 9), at(4, 0), at(4, 1), at(api.MaxWall, 0), at(api.MaxWall, api.MaxCount),
		at(math.MaxInt, math.MinInt), at(math.MaxInt, math.MaxInt),
	}
	for i, a := range rising {
		for j, b := range rising {
			if got := Less(a, b); got != (i < j) {
				t.Errorf("P2.1: Less(%v, %v): %v", a, b, got)
			}
		}
	}
}

func TestMax(t *testing.T) {
	for _, c := range []struct {
		ss   []api.Stamp
		want api.Stamp
	}{
		{nil, at(0, 0)},
		{[]api.Stamp{}, at(0, 0)},
		{[]api.Stamp{at(3, 9)}, at(3, 9)},
		{[]api.Stamp{at(-3, 9)}, at(-3, 9)},
		{[]api.Stamp{at(3, 9), at(3, 9)}, at(3, 9)},
		{[]api.Stamp{at(4, 1), at(3, 9), at(4, 0)}, at(4, 1)},
		{[]api.Stamp{at(3, 9), at(4, 1), at(4, 0)}, at(4, 1)},
		{[]api.Stamp{at(3, 9), at(4, 0), at(4, 1)}, at(4, 1)},
		{[]api.Stamp{at(0, api.MaxCount), at(1, 0)}, at(1, 0)},
		{[]api.Stamp{at(-5, 1), at(-6, 2)}, at(-5, 1)},
		{[]api.Stamp{at(math.MinInt, 0), at(math.MaxInt, 0), at(0, 0)}, at(math.MaxInt, 0)},
	} {
		before := slices.Clone(c.ss)
		if got := Max(c.ss...); got != c.want {
			t.Errorf("P2.1: Max of %v: %v", c.ss, got)
		}
		if !slices.Equal(before, c.ss) {
			t.Errorf("R4: Max changed %v to %v", before, c.ss)
		}
	}
}

func TestExample(t *testing.T) {
	c := New(at(5, 2))
	if s, e := c.Tick(3); s != at(5, 3) || e != api.OK {
		t.Errorf("P2.2: Tick(3): %v, %d", s, e)
	}
	if s, e := c.Tick(9); s != at(9, 0) || e != api.OK {
		t.Errorf("P2.2: Tick(9): %v, %d", s, e)
	}
	if e := c.See(at(9, 4), 9); e != api.OK || c.Last() != at(9, 5) {
		t.Errorf("P2.2: See({9 4}, 9): %d, then Last %v", e, c.Last())
	}
}

func TestTick(t *testing.T) {
	for _, x := range []struct {
		last api.Stamp
		wall int
		want api.Stamp
		e    api.Errno
	}{
		{at(0, 0), 0, at(0, 1), api.OK},
		{at(0, 0), 1, at(1, 0), api.OK},
		{at(5, 2), 0, at(5, 3), api.OK},
		{at(5, 2), 4, at(5, 3), api.OK},
		{at(5, 2), 5, at(5, 3), api.OK},
		{at(5, 2), 6, at(6, 0), api.OK},
		// Far ahead is well: what a node's own clock shows has no skew.
		{at(5, 2), api.MaxWall - 1, at(api.MaxWall-1, 0), api.OK},
		{at(5, 2), api.MaxWall, at(api.MaxWall, 0), api.OK},
		{at(api.MaxWall, 2), api.MaxWall, at(api.MaxWall, 3), api.OK},
		{at(5, api.MaxCount-1), 5, at(5, api.MaxCount), api.OK},
		{at(5, api.MaxCount), 6, at(6, 0), api.OK},
		{at(5, api.MaxCount), 5, at(0, 0), api.ErrOver},
		{at(5, api.MaxCount), 4, at(0, 0), api.ErrOver},
		{at(api.MaxWall, api.MaxCount), api.MaxWall, at(0, 0), api.ErrOver},
	} {
		c := New(x.last)
		s, e := c.Tick(x.wall)
		if s != x.want || e != x.e {
			t.Errorf("P2.2: Tick(%d) behind %v: %v, %d", x.wall, x.last, s, e)
		}
		checkLast(t, c, x.last, x.want, e)
	}
}

// checkLast asks that Last is what was told or, behind an error, what it was.
func checkLast(t *testing.T, c *Clock, before, told api.Stamp, e api.Errno) {
	t.Helper()
	if e != api.OK {
		told = before
	}
	if c.Last() != told {
		t.Errorf("P2.2: Last is %v behind %d, from %v, not %v", c.Last(), e, before, told)
	}
}

func TestTickOfWallsThatMayNotBe(t *testing.T) {
	// With its count at the end: ErrArg comes ahead of ErrOver.
	for _, last := range []api.Stamp{at(5, 2), at(5, api.MaxCount), at(api.MaxWall, api.MaxCount)} {
		for _, wall := range badWalls() {
			c := New(last)
			if s, e := c.Tick(wall); s != at(0, 0) || e != api.ErrArg {
				t.Errorf("P2.2: Tick(%d) behind %v: %v, %d", wall, last, s, e)
			}
			checkLast(t, c, last, at(0, 0), api.ErrArg)
		}
	}
}

func TestSee(t *testing.T) {
	for _, x := range []struct {
		name    string
		last, s api.Stamp
		wall    int
		want    api.Stamp
	}{
		{"all at zero", at(0, 0), at(0, 0), 0, at(0, 1)},
		{"equal stamps", at(9, 4), at(9, 4), 9, at(9, 5)},
		{"equal stamps, the wall behind", at(9, 4), at(9, 4), 3, at(9, 5)},
		{"equal stamps, the wall ahead", at(9, 4), at(9, 4), 10, at(10, 0)},
		{"all walls equal, s has the greater count", at(9, 0), at(9, 4), 9, at(9, 5)},
		{"all walls equal, Last has the greater count", at(9, 7), at(9, 4), 9, at(9, 8)},
		{"s alone at the greatest wall", at(8, 7), at(9, 4), 8, at(9, 5)},
		{"s and the wall at the greatest wall", at(8, 7), at(9, 4), 9, at(9, 5)},
		{"Last alone at the greatest wall", at(30, 7), at(20, 40), 9, at(30, 8)},
		{"Last and the wall at the greatest wall", at(9, 7), at(8, 40), 9, at(9, 8)},
		{"the wall alone is the greatest", at(8, 7), at(7, 4), 9, at(9, 0)},
		{"s ahead by MaxSkew", at(1, 1), at(9+api.MaxSkew, 4), 9, at(9+api.MaxSkew, 5)},
		{"s behind by more than MaxSkew", at(1, 1), at(2, 4), 3 + api.MaxSkew, at(3+api.MaxSkew, 0)},
		{"Last ahead by more than MaxSkew", at(api.MaxWall, 3), at(2, 4), 1, at(api.MaxWall, 4)},
		{"the last wall", at(1, 1), at(api.MaxWall, 4), api.MaxWall, at(api.MaxWall, 5)},
		{"the last wall, MaxSkew ahead", at(1, 1), at(api.MaxWall, 4), api.MaxWall - api.MaxSkew, at(api.MaxWall, 5)},
		{"up to MaxCount by s", at(3, 1), at(3, api.MaxCount-1), 3, at(3, api.MaxCount)},
		{"up to MaxCount by Last", at(3, api.MaxCount-1), at(3, 1), 3, at(3, api.MaxCount)},
		{"counts at the end, the wall ahead", at(3, api.MaxCount), at(3, api.MaxCount), 4, at(4, 0)},
		{"Last's count at the end, s ahead", at(3, api.MaxCount), at(4, 1), 3, at(4, 2)},
		{"s's count at the end, Last ahead", at(4, 1), at(3, api.MaxCount), 3, at(4, 2)},
	} {
		c := New(x.last)
		if e := c.See(x.s, x.wall); e != api.OK || c.Last() != x.want {
			t.Errorf("P2.2: See, %s: %d, then Last %v", x.name, e, c.Last())
		}
	}
}

func TestSeeErrors(t *testing.T) {
	for _, x := range []struct {
		name    string
		last, s api.Stamp
		wall    int
		e       api.Errno
	}{
		{"one past MaxSkew", at(1, 1), at(10+api.MaxSkew, 4), 9, api.ErrSkew},
		{"far past MaxSkew", at(1, 1), at(api.MaxWall, 4), 0, api.ErrSkew},
		// What Last is does not make a stamp less far ahead of the wall.
		{"one past MaxSkew, Last ahead", at(5000, 1), at(10+api.MaxSkew, 4), 9, api.ErrSkew},
		{"s's count at its end", at(1, 1), at(3, api.MaxCount), 2, api.ErrOver},
		{"Last's count at its end", at(3, api.MaxCount), at(2, 1), 2, api.ErrOver},
		{"Last's count at its end, all walls equal", at(3, api.MaxCount), at(3, 1), 3, api.ErrOver},
		{"s's count at its end, all walls equal", at(3, 1), at(3, api.MaxCount), 3, api.ErrOver},
		{"the last stamp of all", at(api.MaxWall, api.MaxCount), at(1, 1), api.MaxWall, api.ErrOver},
		{"too far ahead, and a count at its end", at(1, 1), at(10+api.MaxSkew, api.MaxCount), 9, api.ErrSkew},
		{"no count may be, too far ahead", at(1, 1), at(10+api.MaxSkew, api.MaxCount+1), 9, api.ErrArg},
	} {
		c := New(x.last)
		if e := c.See(x.s, x.wall); e != x.e {
			t.Errorf("P2.2: See, %s: %d", x.name, e)
		}
		checkLast(t, c, x.last, at(0, 0), x.e)
	}
}

func TestSeeOfWhatMayNotBe(t *testing.T) {
	for _, last := range []api.Stamp{at(5, 2), at(api.MaxWall, api.MaxCount)} {
		c := New(last)
		for _, s := range mayNot() {
			for _, wall := range append(badWalls(), 0, 5, api.MaxWall) {
				if e := c.See(s, wall); e != api.ErrArg {
					t.Errorf("P2.2: See(%v, %d): %d", s, wall, e)
				}
			}
		}
		for _, wall := range badWalls() {
			for _, s := range []api.Stamp{at(0, 0), at(5, api.MaxCount), at(api.MaxWall, 0)} {
				if e := c.See(s, wall); e != api.ErrArg {
					t.Errorf("P2.2: See(%v, %d): %d", s, wall, e)
				}
			}
		}
		checkLast(t, c, last, at(0, 0), api.ErrArg)
	}
}

func TestErrorsChangeNothingLater(t *testing.T) {
	spoilt, plain := New(at(5, 2)), New(at(5, 2))
	spoilt.Tick(-1)
	spoilt.Tick(api.MaxWall + 1)
	spoilt.See(at(-1, 0), 5)
	spoilt.See(at(5, 0), -1)
	spoilt.See(at(6+api.MaxSkew, 0), 5)
	spoilt.See(at(9, api.MaxCount), 9)
	for _, wall := range []int{0, 5, 6, 6, 1} {
		a, d := spoilt.Tick(wall)
		b, e := plain.Tick(wall)
		if a != b || d != e {
			t.Errorf("P2.2: Tick(%d) behind errors: %v, %d, not %v, %d", wall, a, d, b, e)
		}
	}
}

func TestClocksAreOnesOwn(t *testing.T) {
	a, b := New(at(5, 2)), New(at(5, 2))
	a.Tick(9)
	if b.Last() != at(5, 2) {
		t.Errorf("R4: another clock's Tick moved this one to %v", b.Last())
	}
	first := a.Last()
	if again := a.Last(); again != first {
		t.Errorf("R5: Last is %v, then %v", first, again)
	}
}

func TestNilClock(t *testing.T) {
	var c *Clock
	if c.Last() != at(0, 0) {
		t.Errorf("R3: Last: %v", c.Last())
	}
	for _, wall := range append(badWalls(), 0, 5) {
		if s, e := c.Tick(wall); s != at(0, 0) || e != api.ErrNil {
			t.Errorf("R3: Tick(%d): %v, %d", wall, s, e)
		}
		for _, s := range []api.Stamp{at(0, 0), at(-1, 0), at(api.MaxWall, 0)} {
			if e := c.See(s, wall); e != api.ErrNil {
				t.Errorf("R3: See(%v, %d): %d", s, wall, e)
			}
		}
	}
}

// TestClockOnlyRises asks, over many steps, that each one that is well moves the clock on.
func TestClockOnlyRises(t *testing.T) {
	c := New(at(0, 0))
	n := 1
	for range 5000 {
		n = n * 48271 % 2147483647
		before, wall := c.Last(), n%3000
		s := at(n/7%4000, n/11%40)
		e := c.See(s, wall)
		if e == api.OK && (!Less(before, c.Last()) || !Less(s, c.Last())) {
			t.Fatalf("P2.2: See(%v, %d) moved %v to %v", s, wall, before, c.Last())
		}
		if (e == api.ErrSkew) != (s.Wall > wall+api.MaxSkew) {
			t.Fatalf("P2.2: See(%v, %d): %d", s, wall, e)
		}
		before = c.Last()
		if now, e := c.Tick(wall); e != api.OK || !Less(before, now) || c.Last() != now {
			t.Fatalf("P2.2: Tick(%d) behind %v: %v, %d", wall, before, now, e)
		}
	}
}

func TestManyAtOneTime(t *testing.T) {
	var all sync.WaitGroup
	for i := range 8 {
		all.Go(func() {
			for j := range 200 {
				if Max(at(i, j), at(i, j+1)) != at(i, j+1) || !May(at(i, j)) || New(at(i, j)).Last() != at(i, j) {
					t.Error("R5: plain functions at one time")
				}
			}
		})
	}
	all.Wait()
}
