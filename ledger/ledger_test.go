package ledger

import (
	"maps"
	"math"
	"math/rand/v2"
	"slices"
	"strings"
	"sync"
	"testing"

	"grapevine/api"
	"grapevine/drive"
	"grapevine/segment"
)

// rec is a short form of a record.
func rec(origin, seq, wall int, text string) api.Record {
	return api.Record{Key: api.Key{Origin: origin, Seq: seq}, Stamp: api.Stamp{Wall: wall}, Text: text}
}

// base, one and mark are short forms of entries.
func base(v, w []int) api.Entry  { return api.Entry{Kind: api.FrameBase, V: v, W: w} }
func one(r api.Record) api.Entry { return api.Entry{Kind: api.FrameRecord, Record: r} }
func mark(w ...int) api.Entry    { return api.Entry{Kind: api.FrameMark, W: w} }

// long is a record of origin 0 whose text has so many bytes.
func long(seq, bytes int) api.Entry { return one(rec(0, seq, seq, strings.Repeat("x", bytes))) }

// filled is a vector of n numbers that are all x.
func filled(n, x int) []int { return slices.Repeat([]int{x}, max(n, 0)) }

// sizeOf is how many bytes the frame of an entry has, as the chapters of frame, segment and record say.
func sizeOf(e api.Entry) int {
	const around = 1 + 1 + 2 + 8
	switch e.Kind {
	case api.FrameBase:
		return around + 1 + 2*len(e.V) + 1 + 2*len(e.W)
	case api.FrameRecord:
		return around + 1 + 2 + 6 + 2 + 1 + len(e.Text)
	}
	return around + 1 + 2*len(e.W)
}

// sizes is how many bytes all of these have.
func sizes(es []api.Entry) int {
	sum := 0
	for _, e := range es {
		sum += sizeOf(e)
	}
	return sum
}

// plain are the entries without bases.
func plain(es []api.Entry) []api.Entry {
	return slices.DeleteFunc(slices.Clone(es), func(e api.Entry) bool { return e.Kind == api.FrameBase })
}

// copied shares no memory with es.
func copied(es []api.Entry) []api.Entry {
	es = slices.Clone(es)
	for i := range es {
		es[i].V, es[i].W = slices.Clone(es[i].V), slices.Clone(es[i].W)
	}
	return es
}

func same(a, b []api.Entry) bool { return slices.EqualFunc(a, b, segment.Same) }

// look is all that a drive tells of its files.
type look struct {
	files map[string]string
	loose map[string]int
}

func lookAt(d *drive.Drive) look {
	l := look{map[string]string{}, map[string]int{}}
	for _, name := range d.Names() {
		b, _ := d.Read(name)
		l.files[name], l.loose[name] = string(b), d.Loose(name)
	}
	return l
}

func (l look) same(other look) bool {
	return maps.Equal(l.files, other.files) && maps.Equal(l.loose, other.loose)
}

// opened is Open, which must succeed.
func opened(t *testing.T, d *drive.Drive, n int) (*Ledger, []api.Entry) {
	t.Helper()
	l, es, e := Open(d, n)
	if e != api.OK || l == nil {
		t.Fatalf("P9.1: Open: %v, %v, %d", l, es, e)
	}
	return l, es
}

// wrote is Write of all, with what a node has of which these are the first entries; all must succeed.
func wrote(t *testing.T, l *Ledger, n int, es ...api.Entry) {
	t.Helper()
	for i, e := range es {
		if x := l.Write(e, filled(n, 9), filled(n, 4)); x != api.OK {
			t.Fatalf("P9.1: Write, the %d-th: %d", i, x)
		}
	}
}

// says asks what a call answered.
func says(t *testing.T, why string, got, want api.Errno) {
	t.Helper()
	if got != want {
		t.Fatalf("%s: %d, not %d", why, got, want)
	}
}

// isNumber asks what number a call answered.
func isNumber(t *testing.T, why string, got, want int) {
	t.Helper()
	if got != want {
		t.Fatalf("%s: %d, not %d", why, got, want)
	}
}

// holds asks that the drive has just these entries, in so many segments, for a ledger, also for another one behind it, and that looking changes nothing.
func holds(t *testing.T, why string, d *drive.Drive, n int, want []api.Entry) *Ledger {
	t.Helper()
	bases := len(want) - len(plain(want))
	l, es := opened(t, d, n)
	if !same(es, want) || l.Segments() != bases {
		t.Fatalf("%s: %v in %d segments, not %v in %d", why, es, l.Segments(), want, bases)
	}
	before := lookAt(d)
	again, es := opened(t, d, n)
	if !same(es, want) || again.Segments() != bases || !before.same(lookAt(d)) {
		t.Fatalf("%s: behind another Open: %v in %d segments, not %v in %d", why, es, again.Segments(), want, bases)
	}
	return l
}

// refused asks that a call answers that error and changes nothing.
func refused(t *testing.T, why string, d *drive.Drive, l *Ledger, want api.Errno, call func() api.Errno) {
	t.Helper()
	before, many := lookAt(d), l.Segments()
	says(t, why, call(), want)
	if !before.same(lookAt(d)) || l.Segments() != many {
		t.Fatalf("R5: %s: %v became %v", why, before, lookAt(d))
	}
}

// model is a ledger as it must be, over a drive that has nothing else.
type model struct {
	n, room  int
	segments [][]api.Entry
	synced   int // bytes of the last segment
}

func newModel(n, room int) *model {
	first := []api.Entry{base(filled(n, 0), filled(n, 0))}
	return &model{n, room, [][]api.Entry{first}, sizes(first)}
}

func (m *model) all() []api.Entry    { return slices.Concat(m.segments...) }
func (m *model) last() []api.Entry   { return m.segments[len(m.segments)-1] }
func (m *model) loose() int          { return sizes(m.last()) - m.synced }
func (m *model) sync()               { m.synced = sizes(m.last()) }
func (m *model) fits(bytes int) bool { return sizes(m.all())+bytes <= m.room }

func (m *model) write(e api.Entry, v, w []int) api.Errno {
	add := copied([]api.Entry{base(v, w), e})
	if sizes(m.last()) < api.MaxSegment {
		add = add[1:]
	}
	if !m.fits(sizes(add)) {
		return api.ErrFull
	}
	if len(add) == 1 {
		m.segments[len(m.segments)-1] = append(m.last(), add...)
		return api.OK
	}
	m.segments = append(m.segments, add)
	m.synced = 0
	return api.OK
}

func (m *model) trim(w []int) int {
	gone := 0
	for m.loose() == 0 && len(m.segments) > 1 {
		for _, e := range m.segments[0] {
			if e.Kind == api.FrameRecord && (e.Origin >= len(w) || e.Seq > w[e.Origin]) {
				return gone
			}
		}
		m.segments = m.segments[1:]
		gone++
	}
	return gone
}

// crash is a crash of the drive, and an Open behind it.
func (m *model) crash(stay int) {
	bytes := m.synced + min(max(stay, 0), m.loose())
	last := m.last()
	for sizes(last) > bytes {
		last = last[:len(last)-1]
	}
	m.segments[len(m.segments)-1] = last
	if len(last) == 0 {
		m.segments = m.segments[:len(m.segments)-1]
	}
	m.sync()
}

// is asks that a ledger and its drive are as the model says, for those that look at them now and behind another Open.
func (m *model) is(t *testing.T, why string, l *Ledger, d *drive.Drive) {
	t.Helper()
	isNumber(t, why+": Segments", l.Segments(), len(m.segments))
	isNumber(t, why+": Loose", Loose(d), m.loose())
	isNumber(t, why+": Used", d.Used(), sizes(m.all()))
	holds(t, why, d, m.n, m.all())
	isNumber(t, why+": Loose behind Open", Loose(d), m.loose())
}

func TestOpenNew(t *testing.T) {
	for n := 1; n <= api.MaxNodes; n++ {
		d := drive.New(1000)
		l, es := opened(t, d, n)
		want := []api.Entry{base(filled(n, 0), filled(n, 0))}
		if !same(es, want) || l.Segments() != 1 {
			t.Errorf("P9.1: Open of a new drive for %d: %v in %d segments", n, es, l.Segments())
		}
		isNumber(t, "P9.1: Loose behind Open", Loose(d), 0)
		holds(t, "P9.1: Open behind Open", d, n, want)
		for _, stay := range []int{0, 5, 100} {
			d.Crash(stay)
			holds(t, "P9.2: a crash of a new one", d, n, want)
		}
	}
}

func TestOpenRefused(t *testing.T) {
	for _, n := range []int{0, -1, -2, -8, api.MaxNodes + 1, api.MaxNodes + 2, 255, 256, 258, 1 << 32, math.MaxInt, math.MinInt} {
		for _, room := range []int{0, 5, 1000, api.MaxDrive} {
			d := drive.New(room)
			if l, es, e := Open(d, n); l != nil || len(es) != 0 || e != api.ErrArg {
				t.Errorf("P9.1: Open for %d, of a drive of %d bytes: %v, %v, %d", n, room, l, es, e)
			}
			if len(d.Names()) != 0 {
				t.Errorf("R5: Open for %d left %q", n, d.Names())
			}
		}
		if l, es, e := Open(nil, n); l != nil || len(es) != 0 || e != api.ErrNil {
			t.Errorf("R3: Open of no drive for %d: %v, %v, %d", n, l, es, e)
		}
	}
	for n := 1; n <= api.MaxNodes; n++ {
		if l, es, e := Open(nil, n); l != nil || len(es) != 0 || e != api.ErrNil {
			t.Errorf("R3: Open of no drive: %v, %v, %d", l, es, e)
		}
	}
}

func TestOpenWithoutRoom(t *testing.T) {
	for n := 1; n <= api.MaxNodes; n++ {
		first := base(filled(n, 0), filled(n, 0))
		for room := range sizeOf(first) {
			d := drive.New(room + 7)
			d.Append("other", []byte("1234567"))
			before := lookAt(d)
			for range 2 {
				if l, es, e := Open(d, n); l != nil || len(es) != 0 || e != api.ErrFull || !before.same(lookAt(d)) {
					t.Fatalf("P9.1: Open for %d, with room for %d: %v, %v, %d, and %v", n, room, l, es, e, lookAt(d))
				}
			}
		}
		d := drive.New(sizeOf(first))
		holds(t, "P9.1: just enough room", d, n, []api.Entry{first})
	}
}

// story are entries of which some segments are made, and ahead of each what a node has.
func story(n, many int) (es []api.Entry, vs, ws [][]int) {
	v, w := filled(n, 0), filled(n, 0)
	for i := range many {
		vs, ws = append(vs, slices.Clone(v)), append(ws, slices.Clone(w))
		origin := i * i % n
		if i%6 == 5 {
			w[origin] = v[origin] / 2
			es = append(es, mark(slices.Clone(w)...))
			continue
		}
		v[origin]++
		es = append(es, one(api.Record{Key: api.Key{Origin: origin, Seq: v[origin]}, Stamp: api.Stamp{Wall: 1000 * i, Count: i % 3}, Text: strings.Repeat("to be ", i*7%21)}))
	}
	return es, vs, ws
}

func TestWrite(t *testing.T) {
	for n := 1; n <= api.MaxNodes; n++ {
		es, vs, ws := story(n, 60)
		d := drive.New(api.MaxDrive)
		l, _ := opened(t, d, n)
		m := newModel(n, api.MaxDrive)
		for i, e := range es {
			says(t, "P9.1: Write", l.Write(e, vs[i], ws[i]), api.OK)
			m.write(e, vs[i], ws[i])
			m.is(t, "P9.1: Write", l, d)
		}
		if len(m.segments) < 5 {
			t.Errorf("%d segments only", len(m.segments))
		}
		if !same(plain(m.all()), es) {
			t.Error("the model is wrong")
		}
	}
}

// TestBases asks for each base that it is what the Write that began its segment was handed.
func TestBases(t *testing.T) {
	d := drive.New(api.MaxDrive)
	l, _ := opened(t, d, 3)
	var heads []api.Entry
	for i := range 50 {
		heads = append(heads, base([]int{i, 900 - i, 5}, []int{i / 2, i, 5}))
		says(t, "P9.1: Write", l.Write(long(1+i, i*13%100), heads[i].V, heads[i].W), api.OK)
	}
	heads[0] = base(filled(3, 0), filled(3, 0))
	_, es := opened(t, d, 3)
	at, bases := 0, 0
	for _, e := range es {
		if e.Kind != api.FrameBase {
			at++
			continue
		}
		bases++
		if !segment.Same(e, heads[at]) {
			t.Errorf("P9.1: ahead of the %d-th entry stands %v, not %v", at, e, heads[at])
		}
	}
	if at != 50 || bases != l.Segments() || bases < 5 {
		t.Errorf("P9.1: %d entries, %d bases, %d segments", at, bases, l.Segments())
	}
}

// filledTo answers a ledger for two origins whose one segment has so many bytes, from 22 + 24 * 3 on, and its entries.
func filledTo(t *testing.T, d *drive.Drive, bytes int) (*Ledger, []api.Entry) {
	t.Helper()
	l, es := opened(t, d, 2)
	rest := bytes - sizes(es) - 3*24
	for i := range 3 {
		text := min(rest, api.MaxText)
		rest -= text
		e := long(1+i, text)
		wrote(t, l, 2, e)
		es = append(es, e)
	}
	if sizes(es) != bytes || l.Segments() != 1 {
		t.Fatalf("%d bytes in %d segments, not %d in 1", sizes(es), l.Segments(), bytes)
	}
	return l, es
}

func TestSegmentsEnd(t *testing.T) {
	next := long(4, 5)
	for bytes, begins := range map[int]bool{api.MaxSegment - 2: false, api.MaxSegment - 1: false, api.MaxSegment: true, api.MaxSegment + 1: true, api.MaxSegment + 30: true} {
		for _, again := range []bool{false, true} {
			d := drive.New(api.MaxDrive)
			l, es := filledTo(t, d, bytes)
			if again {
				l, _ = opened(t, d, 2)
			}
			v, w := []int{7, 1}, []int{6, 1}
			says(t, "P9.1: Write", l.Write(next, v, w), api.OK)
			loose := sizes(es) + sizeOf(next) - 22
			if begins {
				es = append(es, base(v, w))
				loose = sizeOf(base(v, w)) + sizeOf(next)
				isNumber(t, "P9.1: segments", l.Segments(), 2)
			}
			isNumber(t, "P9.1: an elder segment is synced: Loose", Loose(d), loose)
			holds(t, "P9.1: the end of a segment", d, 2, append(es, next))
		}
	}
}

func TestWriteRefused(t *testing.T) {
	good, long9 := []int{3, 3}, filled(9, 3)
	r := one(rec(1, 1, 1, "a"))
	with := func(e api.Entry, change func(*api.Entry)) api.Entry {
		change(&e)
		return e
	}
	wrong := []struct {
		e    api.Entry
		v, w []int
	}{
		{base(good, good), good, good}, {base([]int{0, 0}, []int{0, 0}), good, good}, {base(nil, nil), good, good}, {api.Entry{}, good, good},
		{with(r, func(e *api.Entry) { e.Kind = 0 }), good, good}, {with(r, func(e *api.Entry) { e.Kind = 4 }), good, good}, {with(r, func(e *api.Entry) { e.Kind = -1 }), good, good},
		{with(r, func(e *api.Entry) { e.Kind = api.FrameMark }), good, good}, {with(mark(1, 1), func(e *api.Entry) { e.Kind = api.FrameRecord }), good, good},
		{with(r, func(e *api.Entry) { e.Kind = 258 }), good, good}, {with(mark(1, 1), func(e *api.Entry) { e.Kind = 259 }), good, good}, {with(mark(1, 1), func(e *api.Entry) { e.Kind = math.MinInt }), good, good},
		{one(rec(2, 1, 1, "a")), good, good}, {one(rec(-1, 1, 1, "a")), good, good}, {one(rec(api.MaxNodes, 1, 1, "a")), good, good}, {one(rec(math.MaxInt, 1, 1, "a")), good, good},
		{one(rec(0, 0, 1, "a")), good, good}, {one(rec(0, api.MaxSeq+1, 1, "a")), good, good}, {one(rec(0, 1, -1, "a")), good, good}, {one(rec(0, 1, api.MaxWall+1, "a")), good, good},
		{one(rec(0, 1, 1, "\xff")), good, good}, {one(rec(0, 1, 1, strings.Repeat("x", api.MaxText+1))), good, good}, {one(api.Record{}), good, good},
		{with(r, func(e *api.Entry) { e.Count = api.MaxCount + 1 }), good, good}, {with(r, func(e *api.Entry) { e.V = good }), good, good}, {with(r, func(e *api.Entry) { e.W = good }), good, good},
		{mark(), good, good}, {mark(1), good, good}, {mark(1, 1, 1), good, good}, {mark(-1, 1), good, good}, {mark(1, api.MaxSeq+1), good, good},
		{with(mark(1, 1), func(e *api.Entry) { e.V = good }), good, good}, {with(mark(1, 1), func(e *api.Entry) { e.Text = "a" }), good, good},
		{r, nil, nil}, {r, []int{}, []int{}}, {r, []int{3}, []int{3}}, {r, long9[:3], long9[:3]}, {r, long9, long9}, {r, []int{3}, good}, {r, good, []int{3}}, {r, good, nil}, {r, nil, good}, {r, long9[:3], good}, {r, good, long9[:3]},
		{r, good, []int{3, 4}}, {r, good, []int{4, 3}}, {r, []int{3, 0}, []int{0, 3}}, {r, []int{0, 9}, []int{1, 0}},
		{r, []int{3, -1}, []int{0, -1}}, {r, []int{-1, 3}, []int{-1, 0}}, {r, good, []int{-1, 3}}, {r, good, []int{3, math.MinInt}},
		{r, []int{api.MaxSeq + 1, 3}, good}, {r, []int{3, api.MaxSeq + 1}, good}, {r, []int{3, math.MaxInt}, good}, {r, filled(2, api.MaxSeq+1), filled(2, api.MaxSeq+1)}, {r, []int{3, 65536}, good},
		{mark(1, 1), nil, nil}, {mark(1, 1), good, []int{3, 4}}, {mark(1, 1), []int{3}, good}, {mark(1, 1), good, []int{3, -1}},
	}
	// In a segment that has room, in one behind which the next begins, and on a full drive: ErrArg is ahead of ErrFull.
	for _, bytes := range []int{200, api.MaxSegment} {
		for _, room := range []int{bytes, api.MaxDrive} {
			d := drive.New(room)
			l, es := filledTo(t, d, bytes)
			for _, x := range wrong {
				refused(t, "P9.1: Write of what may not be", d, l, api.ErrArg, func() api.Errno { return l.Write(x.e, x.v, x.w) })
			}
			holds(t, "R5: Write that was refused", d, 2, es)
			if room == api.MaxDrive {
				says(t, "P9.1: Write behind refused ones", l.Write(r, good, good), api.OK)
			}
		}
	}
}

func TestWriteAtBounds(t *testing.T) {
	for n := 1; n <= api.MaxNodes; n++ {
		d := drive.New(api.MaxDrive)
		l, want := opened(t, d, n)
		m := newModel(n, api.MaxDrive)
		greatest := api.Record{Key: api.Key{Origin: n - 1, Seq: api.MaxSeq}, Stamp: api.Stamp{Wall: api.MaxWall, Count: api.MaxCount}, Text: strings.Repeat("\u00e9", api.MaxText/2)}
		for range 5 {
			for _, e := range []api.Entry{one(greatest), one(rec(0, 1, 0, "")), mark(filled(n, 0)...), mark(filled(n, api.MaxSeq)...), {Kind: api.FrameRecord, V: []int{}, W: []int{}, Record: greatest}} {
				for _, vw := range [][2][]int{{filled(n, 0), filled(n, 0)}, {filled(n, api.MaxSeq), filled(n, api.MaxSeq)}, {filled(n, api.MaxSeq), filled(n, 0)}} {
					says(t, "P9.1: Write at the bounds", l.Write(e, vw[0], vw[1]), api.OK)
					m.write(e, vw[0], vw[1])
					want = append(want, e)
				}
			}
		}
		m.is(t, "P9.1: Write at the bounds", l, d)
		if !same(plain(m.all()), plain(want)) {
			t.Error("the model is wrong")
		}
		if _, _, e := Open(d, n+1); n == api.MaxNodes && e != api.ErrArg {
			t.Errorf("P9.1: Open for %d: %d", n+1, e)
		}
	}
}

// TestWriteWithoutRoom writes, at each room, the same entries until there is none left, and what is smaller then.
func TestWriteWithoutRoom(t *testing.T) {
	es, vs, ws := story(2, 12)
	full := 0
	for room := 22; room <= 1500; room++ {
		d := drive.New(room)
		l, _ := opened(t, d, 2)
		m := newModel(2, room)
		for i, e := range es {
			want := m.write(e, vs[i], ws[i])
			if want == api.OK {
				says(t, "P9.1: Write with room", l.Write(e, vs[i], ws[i]), api.OK)
				continue
			}
			full++
			for range 2 {
				refused(t, "P9.1: Write without room", d, l, api.ErrFull, func() api.Errno { return l.Write(e, vs[i], ws[i]) })
			}
		}
		m.is(t, "P9.1: Write until the drive is full", l, d)
	}
	if full == 0 {
		t.Error("there was always room")
	}
}

// TestBeginWithoutRoom asks of the Write that begins a segment, at each room from none up to one that suffices.
func TestBeginWithoutRoom(t *testing.T) {
	next := long(4, 30)
	need := 22 + sizeOf(next)
	for _, synced := range []bool{false, true} {
		for more := range need + 3 {
			d := drive.New(api.MaxSegment + more)
			l, es := filledTo(t, d, api.MaxSegment)
			if synced {
				says(t, "P9.1: Sync", l.Sync(), api.OK)
			}
			write := func() api.Errno { return l.Write(next, []int{3, 0}, []int{1, 0}) }
			if more < need {
				refused(t, "P9.1: a new segment without room", d, l, api.ErrFull, write)
				holds(t, "P9.1: a new segment without room", d, 2, es)
				continue
			}
			says(t, "P9.1: a new segment with room", write(), api.OK)
			holds(t, "P9.1: a new segment with room", d, 2, append(es, base([]int{3, 0}, []int{1, 0}), next))
			isNumber(t, "P9.1: an elder segment is synced", Loose(d), need)
		}
	}
}

func TestSync(t *testing.T) {
	d := drive.New(api.MaxDrive)
	l, want := opened(t, d, 2)
	for i := range 30 {
		es := []api.Entry{long(1+i, i*31%90)}
		wrote(t, l, 2, es...)
		if Loose(d) == 0 {
			t.Error("P9.1: Write syncs")
		}
		for range 2 {
			says(t, "P9.1: Sync", l.Sync(), api.OK)
			isNumber(t, "P9.1: Loose behind Sync", Loose(d), 0)
		}
		want = append(want, es...)
		d.Crash(0)
		if _, es := opened(t, d, 2); !same(plain(es), want[1:]) {
			t.Fatalf("P9.2: what was synced: %v, not %v", es, want)
		}
		if i%3 == 0 {
			l, _ = opened(t, d, 2)
		}
	}
}

// trimmed is a ledger for two origins with segments of these records and of marks, two of them of marks alone, and the last one not full.
func trimmed(t *testing.T, room int) (*drive.Drive, *Ledger, *model) {
	t.Helper()
	d := drive.New(room)
	l, _ := opened(t, d, 2)
	m := newModel(2, room)
	write := func(e api.Entry) {
		says(t, "P9.1: Write", l.Write(e, []int{9, 9}, []int{0, 2}), api.OK)
		m.write(e, []int{9, 9}, []int{0, 2})
	}
	for _, keys := range [][]api.Key{{{Seq: 3}, {Seq: 1}, {Seq: 2}}, {{Origin: 1, Seq: 7}, {Seq: 4}, {Origin: 1, Seq: 1}}, {}, {{Origin: 1, Seq: 2}, {Origin: 1, Seq: 5}}, {{Seq: 9}, {Seq: 8}}, {}} {
		for _, key := range keys {
			write(one(api.Record{Key: key, Text: "x"}))
		}
		for write(mark(1023, 1023)); sizes(m.last()) < api.MaxSegment; {
			write(mark(8, 8))
		}
	}
	write(mark(1, 1))
	isNumber(t, "P9.1: segments", l.Segments(), 7)
	return d, l, m
}

func TestTrim(t *testing.T) {
	for _, w := range [][]int{
		{0, 0}, {2, 1023}, {3, 0}, {3, 6}, {3, 7}, {4, 6}, {4, 7}, {4, 1023}, {8, 7}, {9, 7}, {9, 4}, {9, 6}, {1023, 0}, {0, 1023}, {1023, 1023},
		nil, {}, {3}, {1023}, {3, 7, 1}, {9, 7, 0}, {1023, 1023, 1023}, {-1, -1}, {math.MinInt, math.MinInt}, {3, -1}, {-1, 1023}, {5000, 5000}, {math.MaxInt, math.MaxInt}, filled(9, 1023),
	} {
		d, l, m := trimmed(t, api.MaxDrive)
		before := lookAt(d)
		handed := slices.Clone(w)
		isNumber(t, "P9.1: Trim ahead of Sync", l.Trim(w), 0)
		if !before.same(lookAt(d)) || l.Segments() != len(m.segments) {
			t.Fatal("P9.1: Trim ahead of Sync changes something")
		}
		l.Sync()
		m.sync()
		isNumber(t, "P9.1: Trim", l.Trim(w), m.trim(w))
		m.is(t, "P9.1: behind Trim", l, d)
		isNumber(t, "P9.1: Trim again", l.Trim(w), 0)
		m.is(t, "P9.1: behind another Trim", l, d)
		if !slices.Equal(w, handed) {
			t.Errorf("R4: Trim made %v of %v", w, handed)
		}
		next := long(1, 120)
		for range 5 {
			says(t, "P9.1: Write behind Trim", l.Write(next, filled(2, 9), filled(2, 8)), api.OK)
			m.write(next, filled(2, 9), filled(2, 8))
			m.is(t, "P9.1: Write behind Trim", l, d)
		}
		d.Crash(200)
		m.crash(200)
		l, _ = opened(t, d, 2)
		m.is(t, "P9.2: a crash behind Trim", l, d)
	}
}

// TestTrimSome asks for the very numbers, written down apart from the model.
func TestTrimSome(t *testing.T) {
	for want, w := range [][]int{{2, 1023}, {3, 6}, {4, 7}, {8, 9}, {9, 9}} {
		d := drive.New(api.MaxDrive)
		l, _ := opened(t, d, 2)
		// Three records fill a segment; of the last one here nothing is looked at.
		for _, key := range []api.Key{{Seq: 1}, {Seq: 2}, {Seq: 3}, {Seq: 4}, {Origin: 1, Seq: 7}, {Seq: 4}, {Seq: 2}, {Seq: 1}, {Origin: 1, Seq: 9}, {Origin: 1, Seq: 9}, {Seq: 9}, {Seq: 1}, {Seq: 1000}} {
			says(t, "P9.1: Write", l.Write(one(api.Record{Key: key, Text: strings.Repeat("x", api.MaxText)}), []int{0, 0}, []int{0, 0}), api.OK)
		}
		isNumber(t, "P9.1: segments", l.Segments(), 5)
		l.Sync()
		isNumber(t, "P9.1: Trim", l.Trim(w), want)
		isNumber(t, "P9.1: segments behind Trim", l.Segments(), 5-want)
		_, es := opened(t, d, 2)
		if es[0].Kind != api.FrameBase || len(plain(es)) != 13-3*want {
			t.Errorf("P9.1: behind Trim: %v", es)
		}
	}
}

func TestTrimOne(t *testing.T) {
	d := drive.New(api.MaxDrive)
	l, es := filledTo(t, d, api.MaxSegment+20)
	for range 2 {
		isNumber(t, "P9.1: Trim of one segment", l.Trim([]int{1023, 1023}), 0)
		isNumber(t, "P9.1: segments", l.Segments(), 1)
		l.Sync()
	}
	holds(t, "P9.1: Trim of one segment", d, 2, es)
}

// TestTrimMarks asks of segments that hold no record at all: no w is needed for these to go.
func TestTrimMarks(t *testing.T) {
	for _, w := range [][]int{nil, {}, {0, 0}, {-1, -1}, {1023, 1023}} {
		d := drive.New(api.MaxDrive)
		l, _ := opened(t, d, 2)
		for l.Segments() < 4 {
			wrote(t, l, 2, mark(1, 1))
		}
		l.Sync()
		isNumber(t, "P9.1: Trim of marks", l.Trim(w), 3)
		holds(t, "P9.1: Trim of marks", d, 2, []api.Entry{base(filled(2, 9), filled(2, 4)), mark(1, 1)})
	}
}

// TestTrimLoose asks that nothing goes while something behind is loose, though it be another ledger's Open that sees it.
func TestTrimLoose(t *testing.T) {
	for _, again := range []bool{false, true} {
		d := drive.New(api.MaxDrive)
		l, es := filledTo(t, d, api.MaxSegment)
		next, more := long(4, 4), long(5, 5)
		v, w := []int{3, 0}, []int{3, 0}
		says(t, "P9.1: Write", l.Write(next, v, w), api.OK)
		for _, e := range []api.Entry{more, mark(3, 0)} {
			if again {
				l, _ = opened(t, d, 2)
			}
			isNumber(t, "P9.1: Trim ahead of Sync", l.Trim([]int{1023, 1023}), 0)
			l.Sync()
			says(t, "P9.1: Write", l.Write(e, v, w), api.OK)
			isNumber(t, "P9.1: Trim with something loose behind", l.Trim([]int{1023, 1023}), 0)
		}
		d.Append("other", []byte("loose"))
		l.Sync()
		isNumber(t, "P9.1: Trim behind Sync", l.Trim([]int{3, 0}), 1)
		holds(t, "P9.1: Trim behind Sync", d, 2, []api.Entry{base(v, w), next, more, mark(3, 0)})
		if len(es) != 4 {
			t.Error("the first segment is another one")
		}
		d.Crash(0)
		holds(t, "P9.2: Trim and a crash", d, 2, []api.Entry{base(v, w), next, more, mark(3, 0)})
	}
}

// TestCrash writes some entries, syncs behind one of them, crashes with each number of bytes, goes on, and crashes again.
func TestCrash(t *testing.T) {
	es, vs, ws := story(2, 14)
	for many := range len(es) + 1 {
		for _, syncedAt := range []int{-1, 0, many / 2, many - 1} {
			for stay := -1; ; stay++ {
				d := drive.New(api.MaxDrive)
				l, _ := opened(t, d, 2)
				m := newModel(2, api.MaxDrive)
				for i, e := range es[:many] {
					says(t, "P9.1: Write", l.Write(e, vs[i], ws[i]), api.OK)
					m.write(e, vs[i], ws[i])
					if i == syncedAt {
						l.Sync()
						m.sync()
					}
				}
				loose := Loose(d)
				isNumber(t, "P9.1: Loose behind Write", loose, m.loose())
				crashed(t, d, m, stay, es[:many], min(syncedAt+1, many))
				if stay > loose {
					break
				}
			}
		}
	}
}

// crashed asks what is there behind a crash, that writing goes on from there, and what is there behind another one.
func crashed(t *testing.T, d *drive.Drive, m *model, stay int, es []api.Entry, safe int) {
	t.Helper()
	loose := Loose(d)
	d.Crash(stay)
	m.crash(stay)
	l, got := opened(t, d, 2)
	isNumber(t, "P9.2: Loose behind a crash and Open", Loose(d), 0)
	rest := plain(got)
	if len(rest) < safe || len(rest) > len(es) || !same(rest, es[:len(rest)]) || stay >= loose && len(rest) != len(es) {
		t.Fatalf("P9.2: Crash(%d) of %d loose bytes leaves %v of %v, of which %d are synced", stay, loose, rest, es, safe)
	}
	m.is(t, "P9.2: behind a crash", l, d)
	next, v, w := long(7, 40), []int{8, 8}, []int{2, 2}
	says(t, "P9.1: Write behind a crash", l.Write(next, v, w), api.OK)
	m.write(next, v, w)
	m.is(t, "P9.1: Write behind a crash", l, d)
	if loose%2 == 0 {
		says(t, "P9.1: Sync behind a crash", l.Sync(), api.OK)
		m.sync()
		isNumber(t, "P9.1: Loose behind Sync", Loose(d), 0)
		rest = append(rest, next)
	}
	d.Crash(stay % 50)
	m.crash(stay % 50)
	l, got = opened(t, d, 2)
	if len(plain(got)) < len(rest) || !same(plain(got), append(rest, next)[:len(plain(got))]) {
		t.Fatalf("P9.2: another crash leaves %v of %v", got, rest)
	}
	m.is(t, "P9.2: behind another crash", l, d)
}

// TestCrashOfNewSegment asks of the Write that begins a segment: at each byte of it, what is left.
func TestCrashOfNewSegment(t *testing.T) {
	next, v, w := long(4, 30), []int{3, 1}, []int{1, 0}
	head := base(v, w)
	for stay := range sizeOf(head) + sizeOf(next) + 2 {
		d := drive.New(api.MaxDrive)
		l, es := filledTo(t, d, api.MaxSegment)
		says(t, "P9.1: Write", l.Write(next, v, w), api.OK)
		d.Crash(stay)
		if stay >= sizeOf(head) {
			es = append(es, head)
		}
		if stay >= sizeOf(head)+sizeOf(next) {
			es = append(es, next)
		}
		l = holds(t, "P9.2: a crash in a new segment", d, 2, es)
		isNumber(t, "P9.2: nothing of what is torn stays: Used", d.Used(), sizes(es))
		more, v2, w2 := long(5, 1), []int{4, 4}, []int{4, 4}
		says(t, "P9.1: Write behind a crash", l.Write(more, v2, w2), api.OK)
		if stay < sizeOf(head) {
			es = append(es, base(v2, w2))
		}
		holds(t, "P9.1: Write behind a crash", d, 2, append(es, more))
	}
}

// TestCrashOfFullDrive asks that what is torn gives its room back, and that Open needs none.
func TestCrashOfFullDrive(t *testing.T) {
	es, vs, ws := story(2, 40)
	for room := 400; room < 1400; room += 7 {
		for _, stay := range []int{0, 1, 21, 22, 40, 100, 1000} {
			d := drive.New(room)
			l, _ := opened(t, d, 2)
			m := newModel(2, room)
			for round := range 4 {
				for i, e := range es {
					says(t, "P9.1: Write", l.Write(e, vs[i], ws[i]), m.write(e, vs[i], ws[i]))
				}
				isNumber(t, "P9.1: Trim", l.Trim(ws[20]), m.trim(ws[20]))
				d.Crash(stay + round)
				m.crash(stay + round)
				l, _ = opened(t, d, 2)
				m.is(t, "P9.2: a crash of a full drive", l, d)
			}
		}
	}
}

func TestLoose(t *testing.T) {
	isNumber(t, "R3: Loose of no drive", Loose(nil), 0)
	d := drive.New(1000)
	isNumber(t, "P9.1: Loose of a new drive", Loose(d), 0)
	d.Append("a", []byte{1, 2, 3})
	d.Append("b.2", []byte{4, 5})
	d.Append("z", nil)
	isNumber(t, "P9.1: Loose of all files", Loose(d), 5)
	d.Sync("a")
	isNumber(t, "P9.1: Loose of all files", Loose(d), 2)
	l, _ := opened(t, d, 2)
	wrote(t, l, 2, long(1, 10))
	isNumber(t, "P9.1: Loose of all files", Loose(d), 2+34)
	l.Sync()
	isNumber(t, "P9.1: Sync is of the ledger's files", Loose(d), 2)
	d.Crash(0)
	isNumber(t, "P9.1: Loose behind a crash", Loose(d), 0)
}

func TestNil(t *testing.T) {
	var l *Ledger
	good := []int{1, 1}
	says(t, "R3: Write", l.Write(long(1, 1), good, good), api.ErrNil)
	says(t, "R3: Write", l.Write(api.Entry{}, nil, nil), api.ErrNil)
	says(t, "R3: Sync", l.Sync(), api.ErrNil)
	isNumber(t, "R3: Trim", l.Trim(good)+l.Trim(nil), 0)
	isNumber(t, "R3: Segments", l.Segments(), 0)
}

// TestNothingShared changes what was handed in and what was answered.
func TestNothingShared(t *testing.T) {
	d := drive.New(api.MaxDrive)
	l, answered := opened(t, d, 2)
	spoil := func(es []api.Entry) {
		for i := range es {
			for _, v := range [][]int{es[i].V, es[i].W} {
				for j := range v[:cap(v)] {
					v[:cap(v)][j] = -7
				}
			}
			es[i] = api.Entry{Kind: 99}
		}
	}
	spoil(answered)
	m := newModel(2, api.MaxDrive)
	for i := range 40 {
		// Each list has spare room, with numbers of which nothing may change.
		room := func(v ...int) []int { return append(v, 77, 78)[:len(v)] }
		e, v, w := mark(room(i, i+1)...), room(i+3, i+2), room(i, i+1)
		if i%3 > 0 {
			e = one(rec(0, 1+i, 5, strings.Repeat("x", 100)))
		}
		as, vs, ws := copied([]api.Entry{e})[0], slices.Clone(v), slices.Clone(w)
		m.write(e, v, w)
		says(t, "P9.1: Write", l.Write(e, v, w), api.OK)
		if !segment.Same(e, as) || !slices.Equal(v, vs) || !slices.Equal(w, ws) {
			t.Fatalf("R4: Write made %v, %v, %v of %v, %v, %v", e, v, w, as, vs, ws)
		}
		if v = v[:4]; v[2] != 77 || v[3] != 78 || w[:4][2] != 77 || w[:4][3] != 78 || e.Kind == api.FrameMark && e.W[:4][3] != 78 {
			t.Fatal("R4: Write writes into spare room")
		}
		spoil([]api.Entry{e, {V: v, W: w}})
		_, first := opened(t, d, 2)
		_, second := opened(t, d, 2)
		spoil(first)
		if !same(second, m.all()) {
			t.Fatalf("R4: two answers share memory: %v", second)
		}
		m.is(t, "R4: what was handed in is kept", l, d)
	}
	_, es := opened(t, d, 2)
	for i := range es {
		kept := copied(es)
		for j := range es[i].V {
			es[i].V[j] = -1
		}
		kept[i].V = es[i].V
		if !same(es, kept) {
			t.Fatal("R4: two lists of one answer share memory")
		}
	}
	_, es, _ = Open(drive.New(100), 3)
	if es[0].V[1] = 5; es[0].W[1] != 0 {
		t.Error("R4: V and W of a new ledger share memory")
	}
}

// TestOtherFiles asks that files of another name stay as they are, and do not disturb.
func TestOtherFiles(t *testing.T) {
	names := []string{"a", "0", "log", "log2", "log.1", "log2.", "log2.1", "log2.x", "log2.000000000x", "log2.00000000001", "log2.0000000000", "log3.0000000001", "log2..000000001", "log2.0000000001.", "zzz"}
	d := drive.New(api.MaxDrive)
	for i, name := range names {
		says(t, "Append", d.Append(name, []byte(strings.Repeat("G", i))), api.OK)
		d.Sync(name)
		d.Append(name, []byte("?"))
	}
	before := lookAt(d)
	loose := Loose(d)
	m := newModel(2, api.MaxDrive)
	es, vs, ws := story(2, 40)
	l, got := opened(t, d, 2)
	if !same(got, m.all()) || l.Segments() != 1 {
		t.Fatalf("P9.1: Open beside other files: %v", got)
	}
	for i, e := range es {
		says(t, "P9.1: Write beside other files", l.Write(e, vs[i], ws[i]), api.OK)
		m.write(e, vs[i], ws[i])
		if i == 20 {
			l.Sync()
			m.sync()
			isNumber(t, "P9.1: Trim beside other files", l.Trim(ws[i]), m.trim(ws[i]))
		}
		isNumber(t, "P9.1: segments beside other files", l.Segments(), len(m.segments))
		isNumber(t, "P9.1: Loose", Loose(d), loose+m.loose())
		holds(t, "P9.1: beside other files", d, 2, m.all())
	}
	for _, name := range names {
		b, e := d.Read(name)
		if e != api.OK || string(b) != before.files[name] || d.Loose(name) != before.loose[name] {
			t.Errorf("R5: the file %q became %q, %d", name, b, e)
		}
	}
}

// TestAnotherNumberOfOrigins asks that a ledger for n does not do away with one for another number.
func TestAnotherNumberOfOrigins(t *testing.T) {
	d := drive.New(api.MaxDrive)
	want := make(map[int][]api.Entry)
	for n := 1; n <= api.MaxNodes; n++ {
		l, es := opened(t, d, n)
		if len(es) != 1 || !segment.Same(es[0], base(filled(n, 0), filled(n, 0))) {
			t.Fatalf("P9.1: Open for %d: %v", n, es)
		}
		wrote(t, l, n, long(n, 100), long(n+1, 100), long(n+2, 100), long(n+3, 100))
		_, want[n] = opened(t, d, n)
	}
	for n := 1; n <= api.MaxNodes; n++ {
		holds(t, "P9.1: Open for another number of origins", d, n, want[n])
	}
}

// TestSpoilt asks that a log that is not as a ledger left it is read as far as it stands, and written on behind that.
func TestSpoilt(t *testing.T) {
	es, vs, ws := story(2, 20)
	rng := rand.New(rand.NewPCG(9, 1))
	for range 600 {
		d := drive.New(api.MaxDrive)
		l, _ := opened(t, d, 2)
		for i, e := range es {
			l.Write(e, vs[i], ws[i])
		}
		_, all := opened(t, d, 2)
		for range 1 + rng.IntN(2) {
			name := d.Names()[rng.IntN(len(d.Names()))]
			switch b, _ := d.Read(name); rng.IntN(5) {
			case 0:
				d.Cut(name, rng.IntN(len(b)+1))
			case 1:
				d.Append(name, []byte("G\x02\x00"))
			case 2:
				d.Remove(name)
			case 3:
				d.Rename(name, d.Names()[rng.IntN(len(d.Names()))])
			default:
				if len(b) > 0 {
					b[rng.IntN(len(b))] ^= 1 << rng.IntN(8)
				}
				d.Cut(name, 0)
				d.Append(name, b)
			}
			if len(d.Names()) == 0 {
				break
			}
		}
		l, got := opened(t, d, 2)
		if len(got) == 0 || got[0].Kind != api.FrameBase || len(got) > len(all)+1 {
			t.Fatalf("P9.1: Open of a spoilt log: %v", got)
		}
		holds(t, "P9.1: Open of a spoilt log", d, 2, got)
		for i, e := range es[:6] {
			says(t, "P9.1: Write to a spoilt log", l.Write(e, vs[i], ws[i]), api.OK)
		}
		_, more := opened(t, d, 2)
		if !same(plain(more), append(plain(got), es[:6]...)) {
			t.Fatalf("P9.1: Write to a spoilt log: %v, behind %v", more, got)
		}
	}
}

// TestTornBetween asks that nothing is read behind a place where a log is torn, be it that more segments stand there.
func TestTornBetween(t *testing.T) {
	es, vs, ws := story(2, 20)
	for torn := range 3 {
		for size := 0; ; size += 9 {
			d := drive.New(api.MaxDrive)
			l, _ := opened(t, d, 2)
			m := newModel(2, api.MaxDrive)
			for i, e := range es {
				l.Write(e, vs[i], ws[i])
				m.write(e, vs[i], ws[i])
			}
			if size >= sizes(m.segments[torn]) {
				break
			}
			says(t, "Cut", d.Cut(d.Names()[torn], size), api.OK)
			// What is not whole is torn at its end too: bytes of half a frame.
			d.Append(d.Names()[torn], []byte("G\x02\x00\x10"))
			m.segments = m.segments[:torn+1]
			for sizes(m.last()) > size {
				m.segments[torn] = m.segments[torn][:len(m.segments[torn])-1]
			}
			want := m.all()
			if len(want) == 0 {
				want = newModel(2, 0).all()
			}
			holds(t, "P9.1: a log that is torn between", d, 2, want)
			isNumber(t, "P9.1: what is torn is cut off: Used", d.Used(), sizes(want))
		}
	}
}

// TestSpoiltWithoutRoom asks that an Open that finds nothing to read, and has no room, changes nothing.
func TestSpoiltWithoutRoom(t *testing.T) {
	d := drive.New(40)
	opened(t, d, 2)
	name := d.Names()[0]
	d.Cut(name, 5)
	d.Append("other", []byte(strings.Repeat("x", 30)))
	before := lookAt(d)
	if l, es, e := Open(d, 2); l != nil || len(es) != 0 || e != api.ErrFull || !before.same(lookAt(d)) {
		t.Errorf("R5: Open without room: %v, %v, %d, and %v", l, es, e, lookAt(d))
	}
}

// TestScripts follows ledgers and their models through scripts of all that can befall them.
func TestScripts(t *testing.T) {
	for seed := range uint64(400) {
		rng := rand.New(rand.NewPCG(seed, 9))
		n := 1 + rng.IntN(api.MaxNodes)
		room := 46 + rng.IntN(3000)
		d := drive.New(room)
		l, _ := opened(t, d, n)
		m := newModel(n, room)
		v, w := filled(n, 0), filled(n, 0)
		for range 120 {
			origin := rng.IntN(n)
			switch rng.IntN(12) {
			case 0:
				says(t, "P9.1: Sync", l.Sync(), api.OK)
				m.sync()
			case 1:
				isNumber(t, "P9.1: Trim", l.Trim(w), m.trim(w))
			case 2:
				stay := rng.IntN(m.loose()+3) - 1
				d.Crash(stay)
				m.crash(stay)
				l, _ = opened(t, d, n)
			case 3:
				l, _ = opened(t, d, n)
			case 4, 5:
				w[origin] += rng.IntN(v[origin] - w[origin] + 1)
				says(t, "P9.1: Write of a mark", l.Write(mark(w...), v, w), m.write(mark(slices.Clone(w)...), v, w))
			default:
				e := one(rec(origin, v[origin]+1, rng.IntN(1000), strings.Repeat("y", rng.IntN(api.MaxText+1))))
				says(t, "P9.1: Write of a record", l.Write(e, v, w), m.write(e, v, w))
				v[origin]++
			}
			m.is(t, "a script", l, d)
		}
	}
}

// TestSize asks that a log as great as a drive ends within moments.
func TestSize(t *testing.T) {
	d := drive.New(api.MaxDrive)
	l, _ := opened(t, d, 8)
	many := 0
	for l.Write(one(rec(many%8, 1+many/8%api.MaxSeq, many, "to be")), filled(8, 1023), filled(8, 0)) == api.OK {
		many++
		if many%10 == 0 {
			l.Sync()
		}
	}
	l.Sync()
	if _, es := opened(t, d, 8); len(plain(es)) != many || many < 10000 {
		t.Errorf("P9.1: %d entries, not %d", len(plain(es)), many)
	}
	segments := l.Segments()
	isNumber(t, "P9.1: Trim", l.Trim(filled(8, 1023)), segments-1)
	isNumber(t, "P9.1: segments", l.Segments(), 1)
	again, es := opened(t, d, 8)
	isNumber(t, "P9.1: segments behind Open", again.Segments(), 1)
	if len(es) < 2 || es[len(es)-1].Wall != many-1 {
		t.Errorf("P9.1: Open behind Trim: %v", es)
	}
}

func TestManyAtOneTime(t *testing.T) {
	es, vs, ws := story(3, 30)
	var group sync.WaitGroup
	for range 8 {
		group.Go(func() {
			d := drive.New(api.MaxDrive)
			l, _, _ := Open(d, 3)
			for i, e := range es {
				l.Write(e, vs[i], ws[i])
			}
			if _, got, e := Open(d, 3); e != api.OK || !same(plain(got), es) || Loose(d) == 0 || l.Sync() != api.OK || Loose(d) != 0 {
				t.Errorf("R5: of several at one time: %v, %d", got, e)
			}
		})
	}
	group.Wait()
}
