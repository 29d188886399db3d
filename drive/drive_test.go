package drive

import (
	"bytes"
	"fmt"
	"maps"
	"math"
	"math/rand/v2"
	"slices"
	"strings"
	"testing"

	"grapevine/api"
)

// look is all that a drive tells of its files.
type look struct {
	names []string
	files map[string]string
	loose map[string]int
	used  int
}

// lookAt answers all that a drive tells, and asks that it agrees with itself.
func lookAt(t *testing.T, d *Drive) look {
	t.Helper()
	l := look{d.Names(), map[string]string{}, map[string]int{}, d.Used()}
	if !slices.IsSorted(l.names) || len(slices.Compact(slices.Clone(l.names))) != len(l.names) {
		t.Errorf("P7.1: Names: %q", l.names)
	}
	all := 0
	for _, name := range l.names {
		b, e := d.Read(name)
		if e != api.OK {
			t.Errorf("P7.1: Read(%q), which Names tells: %d", name, e)
		}
		l.files[name] = string(b)
		l.loose[name] = d.Loose(name)
		all += len(b)
	}
	if l.used != all {
		t.Errorf("P7.1: Used: %d, but all files have %d", l.used, all)
	}
	return l
}

func (l look) same(other look) bool {
	return slices.Equal(l.names, other.names) && maps.Equal(l.files, other.files) && maps.Equal(l.loose, other.loose) && l.used == other.used
}

// is asks what a drive has: of each file its synced bytes, a bar, its loose ones, such as "a:12|34 b:|".
func is(t *testing.T, why string, d *Drive, want string) {
	t.Helper()
	var parts []string
	l := lookAt(t, d)
	for _, name := range l.names {
		f := l.files[name]
		edge := len(f) - l.loose[name]
		if edge < 0 || edge > len(f) {
			t.Fatalf("%s: Loose(%q): %d, of %d bytes", why, name, l.loose[name], len(f))
		}
		parts = append(parts, name+":"+f[:edge]+"|"+f[edge:])
	}
	if got := strings.Join(parts, " "); got != want {
		t.Errorf("%s: %q, not %q", why, got, want)
	}
}

// says asks what a call answered.
func says(t *testing.T, why string, got, want api.Errno) {
	t.Helper()
	if got != want {
		t.Errorf("%s: %d, not %d", why, got, want)
	}
}

// made answers a drive of that room with files as is tells them.
func made(t *testing.T, most int, files string) *Drive {
	t.Helper()
	d := New(most)
	for _, part := range strings.Fields(files) {
		name, all, _ := strings.Cut(part, ":")
		synced, loose, _ := strings.Cut(all, "|")
		says(t, "P7.1: Append", d.Append(name, []byte(synced)), api.OK)
		says(t, "P7.1: Sync", d.Sync(name), api.OK)
		says(t, "P7.1: Append", d.Append(name, []byte(loose)), api.OK)
	}
	is(t, "P7.1: as made", d, files)
	return d
}

// refused asks that a call answers that error and changes nothing.
func refused(t *testing.T, why string, d *Drive, want api.Errno, call func() api.Errno) {
	t.Helper()
	before := lookAt(t, d)
	says(t, why, call(), want)
	if after := lookAt(t, d); !after.same(before) {
		t.Errorf("R5: %s: %#v became %#v", why, before, after)
	}
}

// wrongNames are those that a file may not have.
func wrongNames() []string {
	names := []string{"", strings.Repeat("x", 21), strings.Repeat("x", 1000), strings.Repeat(".", 21), strings.Repeat("x", 20) + "A", "ä", "aä", "\xff", "a\xff", "\u212a", "１"}
	for c := range 256 {
		if !strings.ContainsRune("abcdefghijklmnopqrstuvwxyz0123456789.", rune(c)) {
			for _, form := range []string{"%s", "a%s", "%sa", "a%sa", "aaaaaaaaaaaaaaaaaaa%s"} {
				names = append(names, fmt.Sprintf(form, string([]byte{byte(c)})))
			}
		}
	}
	return names
}

// rightNames are those that a file may have: each sign alone and at each end, and lengths up to the greatest.
func rightNames() []string {
	names := []string{"..", "...", "a.1", "log.0001.seg", "00", "1e9"}
	for _, c := range "abcdefghijklmnopqrstuvwxyz0123456789." {
		names = append(names, string(c), "m"+string(c)+"m", strings.Repeat(string(c), 20), strings.Repeat(string(c), 19))
	}
	return names
}

func TestNew(t *testing.T) {
	for _, most := range []int{0, 1, 2, 20, api.MaxDrive - 1, api.MaxDrive} {
		d := New(most)
		if d == nil {
			t.Fatalf("P7.1: New(%d) is nil", most)
		}
		is(t, "P7.1: New", d, "")
		if len(d.Names()) != 0 {
			t.Errorf("P7.1: New(%d): %v", most, d.Names())
		}
		refused(t, "P7.1: more than there is room for", d, api.ErrFull, func() api.Errno { return d.Append("a", make([]byte, most+1)) })
		says(t, "P7.1: all that there is room for", d.Append("a", make([]byte, most)), api.OK)
		if d.Used() != most {
			t.Errorf("P7.1: Used: %d, not %d", d.Used(), most)
		}
	}
	for _, most := range []int{-1, -2, -api.MaxDrive, math.MinInt, api.MaxDrive + 1, api.MaxDrive * 2, 1 << 32, 1<<32 + 5, math.MaxInt} {
		if New(most) != nil {
			t.Errorf("P7.1: New(%d) is not nil", most)
		}
	}
}

func TestTwoDrivesShareNothing(t *testing.T) {
	a, b := made(t, 10, "a:1|2"), made(t, 10, "b:|")
	says(t, "P7.1: Append", a.Append("b", []byte("3")), api.OK)
	a.Crash(0)
	is(t, "R5: one drive", a, "a:1| b:|")
	is(t, "R5: another drive", b, "b:|")
}

func TestExample(t *testing.T) {
	d := New(api.MaxDrive)
	says(t, "P7.1: Append", d.Append("a", []byte{1, 2}), api.OK)
	says(t, "P7.1: Sync", d.Sync("a"), api.OK)
	says(t, "P7.1: Append", d.Append("a", []byte{3, 4}), api.OK)
	d.Crash(1)
	if b, e := d.Read("a"); !bytes.Equal(b, []byte{1, 2, 3}) || e != api.OK {
		t.Errorf("P7.2: the chapter's example: %v, %d", b, e)
	}
}

func TestAppendNames(t *testing.T) {
	d := New(api.MaxDrive)
	for i, name := range rightNames() {
		says(t, fmt.Sprintf("P7.1: Append(%q)", name), d.Append(name, []byte{byte(i)}), api.OK)
		if b, e := d.Read(name); !bytes.Equal(b, []byte{byte(i)}) || e != api.OK {
			t.Errorf("P7.1: Read(%q): %v, %d", name, b, e)
		}
	}
	if names := d.Names(); !slices.Equal(names, slices.Sorted(slices.Values(rightNames()))) {
		t.Errorf("P7.1: Names: %q", names)
	}
	for _, name := range wrongNames() {
		refused(t, fmt.Sprintf("P7.1: Append(%q)", name), d, api.ErrArg, func() api.Errno { return d.Append(name, nil) })
		refused(t, fmt.Sprintf("P7.1: Append(%q)", name), d, api.ErrArg, func() api.Errno { return d.Append(name, []byte("1")) })
	}
}

func TestAppend(t *testing.T) {
	d := New(100)
	for _, x := range []struct{ name, b, want string }{
		{"b", "12", "b:|12"},
		{"b", "3", "b:|123"},
		{"b", "", "b:|123"},
		{"a", "", "a:| b:|123"},
		{"a", "", "a:| b:|123"},
		{"a", "45", "a:|45 b:|123"},
		{"b", "\x00\xff", "a:|45 b:|123\x00\xff"},
		{"a.b", "G", "a:|45 a.b:|G b:|123\x00\xff"},
	} {
		says(t, "P7.1: Append", d.Append(x.name, []byte(x.b)), api.OK)
		is(t, "P7.1: behind Append", d, x.want)
	}
	says(t, "P7.1: Sync", d.Sync("a"), api.OK)
	says(t, "P7.1: Append", d.Append("a", nil), api.OK)
	is(t, "P7.1: no byte behind what is synced", d, "a:45| a.b:|G b:|123\x00\xff")
	says(t, "P7.1: Append", d.Append("a", []byte("6")), api.OK)
	is(t, "P7.1: a byte behind what is synced", d, "a:45|6 a.b:|G b:|123\x00\xff")
}

func TestAppendToTheRoom(t *testing.T) {
	d := made(t, 10, "a:12|3 b:|45")
	for _, name := range []string{"a", "b", "c"} {
		for _, size := range []int{6, 7, 10, 11, 1 << 20, 1<<20 + 1} {
			refused(t, "P7.1: more than there is room for", d, api.ErrFull, func() api.Errno { return d.Append(name, make([]byte, size)) })
		}
	}
	refused(t, "R6: a wrong name, and no room", d, api.ErrArg, func() api.Errno { return d.Append("A", make([]byte, 6)) })
	says(t, "P7.1: just what there is room for", d.Append("c", []byte("67890")), api.OK)
	is(t, "P7.1: full", d, "a:12|3 b:|45 c:|67890")
	for _, name := range []string{"a", "c", "d"} {
		refused(t, "P7.1: a byte to a full one", d, api.ErrFull, func() api.Errno { return d.Append(name, []byte{0}) })
	}
	says(t, "P7.1: no byte to a full one", d.Append("a", nil), api.OK)
	says(t, "P7.1: a new file of no byte on a full one", d.Append("d", []byte{}), api.OK)
	is(t, "P7.1: full", d, "a:12|3 b:|45 c:|67890 d:|")
}

// TestRoomAgain: whatever makes room, just so much is room again.
func TestRoomAgain(t *testing.T) {
	for why, free := range map[string]func(d *Drive){
		"Remove":                     func(d *Drive) { says(t, "P7.1: Remove", d.Remove("b"), api.OK) },
		"Rename to one that is":      func(d *Drive) { says(t, "P7.1: Rename", d.Rename("a", "b"), api.OK) },
		"Rename, the other way":      func(d *Drive) { says(t, "P7.1: Rename", d.Rename("c", "b"), api.OK) },
		"Cut":                        func(d *Drive) { says(t, "P7.1: Cut", d.Cut("b", 0), api.OK) },
		"Cut of another one in part": func(d *Drive) { says(t, "P7.1: Cut", d.Cut("c", 2), api.OK) },
		"Crash":                      func(d *Drive) { d.Crash(1) },
	} {
		d := made(t, 12, "a:12|3 b:|45 c:6789|")
		says(t, "P7.1: full", d.Append("d", []byte("XYZ")), api.OK)
		says(t, "P7.1: Sync", d.Sync("d"), api.OK)
		refused(t, "P7.1: full, ahead of "+why, d, api.ErrFull, func() api.Errno { return d.Append("a", []byte{0}) })
		free(d)
		if d.Used() != 10 {
			t.Errorf("P7.1: Used behind %s: %d", why, d.Used())
		}
		refused(t, "P7.1: one byte more, behind "+why, d, api.ErrFull, func() api.Errno { return d.Append("e", make([]byte, 3)) })
		says(t, "P7.1: what is room again, behind "+why, d.Append("e", make([]byte, 2)), api.OK)
		lookAt(t, d)
	}
}

func TestSync(t *testing.T) {
	for _, x := range []struct {
		names []string
		want  string
	}{
		{nil, "a:12|3 b:|45 c:|"},
		{[]string{}, "a:12|3 b:|45 c:|"},
		{[]string{"a"}, "a:123| b:|45 c:|"},
		{[]string{"b"}, "a:12|3 b:45| c:|"},
		{[]string{"c"}, "a:12|3 b:|45 c:|"},
		{[]string{"b", "b"}, "a:12|3 b:45| c:|"},
		{[]string{"a", "b"}, "a:123| b:45| c:|"},
		{[]string{"c", "b", "a"}, "a:123| b:45| c:|"},
		{[]string{"a", "b", "a", "c", "b"}, "a:123| b:45| c:|"},
	} {
		d := made(t, 100, "a:12|3 b:|45 c:|")
		for range 2 {
			says(t, "P7.1: Sync", d.Sync(x.names...), api.OK)
			is(t, fmt.Sprintf("P7.1: Sync(%q)", x.names), d, x.want)
		}
	}
	d := made(t, 100, "a:12|3 b:|45 c:|")
	for _, names := range [][]string{{"d"}, {""}, {"A"}, {"a", "d"}, {"d", "a"}, {"a", "b", "d"}, {"a", "d", "b"}, {"a", "a", "A"}, {"a", "b", "c", "", "a"}, {strings.Repeat("x", 21)}} {
		refused(t, fmt.Sprintf("P7.1: Sync(%q)", names), d, api.ErrNone, func() api.Errno { return d.Sync(names...) })
	}
	none := New(0)
	says(t, "P7.1: Sync of no name, without files", none.Sync(), api.OK)
	says(t, "P7.1: Sync without files", none.Sync("a"), api.ErrNone)
}

func TestSyncAndAppend(t *testing.T) {
	d := New(100)
	says(t, "P7.1: Append", d.Append("a", []byte("12")), api.OK)
	says(t, "P7.1: Sync", d.Sync("a"), api.OK)
	says(t, "P7.1: Append", d.Append("a", []byte("3")), api.OK)
	says(t, "P7.1: Append", d.Append("a", []byte("4")), api.OK)
	is(t, "P7.1: since it was synced", d, "a:12|34")
	says(t, "P7.1: Sync", d.Sync("a"), api.OK)
	says(t, "P7.1: Append", d.Append("a", []byte("5")), api.OK)
	is(t, "P7.1: since it was synced last", d, "a:1234|5")
}

func TestCut(t *testing.T) {
	for _, x := range []struct {
		name string
		size int
		want string
	}{
		{"a", 0, "a:| b:|45 c:|"},
		{"a", 1, "a:1| b:|45 c:|"},
		{"a", 2, "a:12| b:|45 c:|"},
		{"a", 3, "a:123| b:|45 c:|"},
		{"a", 4, "a:1236| b:|45 c:|"},
		{"b", 0, "a:12|36 b:| c:|"},
		{"b", 1, "a:12|36 b:4| c:|"},
		{"b", 2, "a:12|36 b:45| c:|"},
		{"c", 0, "a:12|36 b:|45 c:|"},
	} {
		d := made(t, 100, "a:12|36 b:|45 c:|")
		for range 2 {
			says(t, "P7.1: Cut", d.Cut(x.name, x.size), api.OK)
			is(t, fmt.Sprintf("P7.1: Cut(%q, %d)", x.name, x.size), d, x.want)
		}
		d.Crash(0)
		if b, e := d.Read(x.name); len(b) != x.size || e != api.OK {
			t.Errorf("P7.1: Cut(%q, %d) and a crash: %q, %d", x.name, x.size, b, e)
		}
	}
}

func TestCutRefused(t *testing.T) {
	d := made(t, 100, "a:12|36 b:|45 c:|")
	for name, size := range map[string]int{"a": 4, "b": 2, "c": 0} {
		for _, wrong := range []int{-1, -size, -size - 1, size + 1, size + 2, 100, 1 << 32, math.MaxInt, math.MinInt, math.MinInt + size} {
			if wrong != 0 {
				refused(t, fmt.Sprintf("P7.1: Cut(%q, %d)", name, wrong), d, api.ErrArg, func() api.Errno { return d.Cut(name, wrong) })
			}
		}
	}
	for _, name := range []string{"d", "", "A", "aa", "a ", strings.Repeat("x", 21)} {
		for _, size := range []int{0, 1, -1, 5, math.MaxInt, math.MinInt} {
			refused(t, fmt.Sprintf("R6: Cut(%q, %d)", name, size), d, api.ErrNone, func() api.Errno { return d.Cut(name, size) })
		}
	}
}

// TestCutIsGone: what was cut away does not come back with what is appended behind.
func TestCutIsGone(t *testing.T) {
	d := made(t, 100, "a:12345|678")
	says(t, "P7.1: Cut", d.Cut("a", 3), api.OK)
	says(t, "P7.1: Append", d.Append("a", []byte("x")), api.OK)
	is(t, "P7.1: Append behind Cut", d, "a:123|x")
	refused(t, "P7.1: Cut to its length of before", d, api.ErrArg, func() api.Errno { return d.Cut("a", 5) })
	d.Crash(0)
	is(t, "P7.2: Crash behind these", d, "a:123|")
}

func TestRename(t *testing.T) {
	for _, x := range []struct{ from, to, want string }{
		{"a", "d", "b:|45 c:| d:12|3"},
		{"b", "a1", "a:12|3 a1:|45 c:|"},
		{"c", ".", ".:| a:12|3 b:|45"},
		{"a", "b", "b:12|3 c:|"},
		{"b", "a", "a:|45 c:|"},
		{"c", "a", "a:| b:|45"},
		{"a", "c", "b:|45 c:12|3"},
		{"a", "a", "a:12|3 b:|45 c:|"},
		{"b", "b", "a:12|3 b:|45 c:|"},
		{"c", "c", "a:12|3 b:|45 c:|"},
		{"a", "xxxxxxxxxxxxxxxxxxxx", "b:|45 c:| xxxxxxxxxxxxxxxxxxxx:12|3"},
	} {
		d := made(t, 100, "a:12|3 b:|45 c:|")
		says(t, "P7.1: Rename", d.Rename(x.from, x.to), api.OK)
		is(t, fmt.Sprintf("P7.1: Rename(%q, %q)", x.from, x.to), d, x.want)
		if x.from != x.to {
			refused(t, "P7.1: Rename of one that is no more", d, api.ErrNone, func() api.Errno { return d.Rename(x.from, x.to) })
		}
	}
}

func TestRenameAllNames(t *testing.T) {
	d := made(t, 100, "a:12|3 b:|45")
	last := "a"
	for _, name := range rightNames() {
		if name != "b" {
			says(t, fmt.Sprintf("P7.1: Rename to %q", name), d.Rename(last, name), api.OK)
			last = name
		}
	}
	says(t, "P7.1: Rename back", d.Rename(last, "a"), api.OK)
	is(t, "P7.1: Rename to many names and back", d, "a:12|3 b:|45")
	for _, name := range wrongNames() {
		for _, from := range []string{"a", "no", name} {
			refused(t, fmt.Sprintf("R6: Rename(%q, %q)", from, name), d, api.ErrArg, func() api.Errno { return d.Rename(from, name) })
		}
		refused(t, fmt.Sprintf("P7.1: Rename(%q, b)", name), d, api.ErrNone, func() api.Errno { return d.Rename(name, "b") })
	}
	for _, to := range []string{"a", "b", "c", "no"} {
		refused(t, "P7.1: Rename of one that is not there", d, api.ErrNone, func() api.Errno { return d.Rename("no", to) })
	}
}

// TestRenameApart: one that has another's old name is a file of its own.
func TestRenameApart(t *testing.T) {
	d := made(t, 100, "a:12|3")
	says(t, "P7.1: Rename", d.Rename("a", "b"), api.OK)
	says(t, "P7.1: Append", d.Append("a", []byte("x")), api.OK)
	says(t, "P7.1: Append", d.Append("b", []byte("y")), api.OK)
	is(t, "P7.1: Append behind Rename", d, "a:|x b:12|3y")
	says(t, "P7.1: Sync", d.Sync("a"), api.OK)
	is(t, "P7.1: Sync behind Rename", d, "a:x| b:12|3y")
}

func TestRemove(t *testing.T) {
	for _, x := range []struct{ name, want string }{{"a", "b:|45 c:|"}, {"b", "a:12|3 c:|"}, {"c", "a:12|3 b:|45"}} {
		d := made(t, 100, "a:12|3 b:|45 c:|")
		says(t, "P7.1: Remove", d.Remove(x.name), api.OK)
		is(t, "P7.1: Remove", d, x.want)
		refused(t, "P7.1: Remove again", d, api.ErrNone, func() api.Errno { return d.Remove(x.name) })
		if d.Loose(x.name) != 0 {
			t.Errorf("P7.1: Loose of one that is no more: %d", d.Loose(x.name))
		}
		says(t, "P7.1: Append", d.Append(x.name, []byte("6")), api.OK)
		if b, e := d.Read(x.name); string(b) != "6" || e != api.OK || d.Loose(x.name) != 1 {
			t.Errorf("P7.1: one that is there again: %q, %d, %d loose", b, e, d.Loose(x.name))
		}
	}
	d := made(t, 100, "a:12|3 b:|45 c:|")
	for _, name := range []string{"", "d", "A", "aa", "a.", "\xff", strings.Repeat("x", 21)} {
		refused(t, fmt.Sprintf("P7.1: Remove(%q)", name), d, api.ErrNone, func() api.Errno { return d.Remove(name) })
	}
	for _, name := range []string{"b", "a", "c"} {
		says(t, "P7.1: Remove", d.Remove(name), api.OK)
	}
	is(t, "P7.1: all removed", d, "")
}

func TestRead(t *testing.T) {
	d := made(t, 100, "a:12|3 b:|45 c:6| d:|")
	for name, want := range map[string]string{"a": "123", "b": "45", "c": "6", "d": ""} {
		if b, e := d.Read(name); string(b) != want || e != api.OK {
			t.Errorf("P7.1: Read(%q): %q, %d", name, b, e)
		}
	}
	for _, name := range []string{"", "e", "A", "aa", "a\x00", strings.Repeat("x", 21)} {
		if b, e := d.Read(name); b != nil || e != api.ErrNone {
			t.Errorf("P7.1: Read(%q): %q, %d", name, b, e)
		}
		if d.Loose(name) != 0 {
			t.Errorf("P7.1: Loose(%q): %d", name, d.Loose(name))
		}
	}
	is(t, "R5: behind Read", d, "a:12|3 b:|45 c:6| d:|")
}

func TestNamesRising(t *testing.T) {
	d := New(10)
	for _, name := range []string{"b", "a", "a.", "10", "9", "z", ".", "aa", "a0", "b.1"} {
		says(t, "P7.1: Append", d.Append(name, nil), api.OK)
		says(t, "P7.1: Append again", d.Append(name, nil), api.OK)
	}
	if names := d.Names(); !slices.Equal(names, []string{".", "10", "9", "a", "a.", "a0", "aa", "b", "b.1", "z"}) {
		t.Errorf("P7.1: Names: %q", names)
	}
}

func TestCrash(t *testing.T) {
	for stay, want := range map[int]string{
		math.MinInt: "a:12| b:| c:| d:6| e:|", -1: "a:12| b:| c:| d:6| e:|", 0: "a:12| b:| c:| d:6| e:|",
		1: "a:12x| b:| c:| d:6| e:|", 2: "a:12xy| b:| c:| d:6| e:|",
		3: "a:12xy| b:3| c:| d:6| e:|", 4: "a:12xy| b:34| c:| d:6| e:|", 5: "a:12xy| b:345| c:| d:6| e:|",
		6: "a:12xy| b:345| c:| d:6| e:7|", 7: "a:12xy| b:345| c:| d:6| e:78|",
		8: "a:12xy| b:345| c:| d:6| e:78|", 9: "a:12xy| b:345| c:| d:6| e:78|", math.MaxInt: "a:12xy| b:345| c:| d:6| e:78|",
	} {
		// Made in another order than that of their names.
		d := New(100)
		for _, x := range []struct{ name, synced, loose string }{{"d", "6", ""}, {"e", "", "78"}, {"b", "", "345"}, {"c", "", ""}, {"a", "12", "xy"}} {
			says(t, "P7.1: Append", d.Append(x.name, []byte(x.synced)), api.OK)
			says(t, "P7.1: Sync", d.Sync(x.name), api.OK)
			says(t, "P7.1: Append", d.Append(x.name, []byte(x.loose)), api.OK)
		}
		is(t, "P7.1: ahead of a crash", d, "a:12|xy b:|345 c:| d:6| e:|78")
		d.Crash(stay)
		is(t, fmt.Sprintf("P7.2: Crash(%d)", stay), d, want)
		for _, again := range []int{0, 1, -1, math.MaxInt, math.MinInt} {
			d.Crash(again)
			is(t, fmt.Sprintf("P7.2: Crash(%d), then Crash(%d)", stay, again), d, want)
		}
	}
}

// TestCrashAndAppend: what was lost does not come back, and what a crash left is safe.
func TestCrashAndAppend(t *testing.T) {
	d := made(t, 10, "a:12|345 b:|6789")
	d.Crash(4)
	is(t, "P7.2: Crash", d, "a:12345| b:6|")
	says(t, "P7.1: Append", d.Append("b", []byte("xyzw")), api.OK)
	is(t, "P7.1: Append behind a crash", d, "a:12345| b:6|xyzw")
	refused(t, "P7.1: full again", d, api.ErrFull, func() api.Errno { return d.Append("a", []byte{0}) })
	d.Crash(1)
	is(t, "P7.2: a second crash", d, "a:12345| b:6x|")
}

// TestCrashByNewNames: the order is that of the names that the files have then.
func TestCrashByNewNames(t *testing.T) {
	d := made(t, 100, "a:|12 b:|34 c:|56")
	says(t, "P7.1: Rename", d.Rename("a", "z"), api.OK)
	says(t, "P7.1: Remove", d.Remove("b"), api.OK)
	d.Crash(3)
	is(t, "P7.2: Crash", d, "c:56| z:1|")
	none := New(5)
	none.Crash(3)
	is(t, "P7.2: Crash without files", none, "")
}

func TestNil(t *testing.T) {
	var d *Drive
	for _, name := range []string{"a", "", "A", strings.Repeat("x", 21)} {
		for _, b := range [][]byte{nil, {}, {1}, make([]byte, 1<<20+1)} {
			says(t, "R3: Append", d.Append(name, b), api.ErrNil)
		}
		for _, size := range []int{0, -1, 5} {
			says(t, "R3: Cut", d.Cut(name, size), api.ErrNil)
		}
		says(t, "R3: Sync", d.Sync(name), api.ErrNil)
		says(t, "R3: Sync", d.Sync("b", name), api.ErrNil)
		says(t, "R3: Rename", d.Rename(name, "b"), api.ErrNil)
		says(t, "R3: Rename", d.Rename("b", name), api.ErrNil)
		says(t, "R3: Remove", d.Remove(name), api.ErrNil)
		if b, e := d.Read(name); b != nil || e != api.ErrNil {
			t.Errorf("R3: Read: %v, %d", b, e)
		}
		if d.Loose(name) != 0 {
			t.Errorf("R3: Loose: %d", d.Loose(name))
		}
	}
	says(t, "R3: Sync of no name", d.Sync(), api.ErrNil)
	if d.Names() != nil || d.Used() != 0 {
		t.Errorf("R3: %v, %d", d.Names(), d.Used())
	}
	for _, stay := range []int{0, -1, 3, math.MaxInt} {
		d.Crash(stay)
	}
}

// scribble changes bytes, and their spare room.
func scribble(b []byte) {
	b = b[:cap(b)]
	for i := range b {
		b[i] ^= 255
	}
}

func TestAppendKeepsNothing(t *testing.T) {
	for _, files := range []string{"", "a:|", "a:12|", "a:12|3"} {
		for _, size := range []int{0, 1, 5, 40, 95, 200} {
			for _, name := range []string{"a", "b", "B"} {
				d := made(t, 100, files)
				room := append(bytes.Repeat([]byte{'x'}, size), "room behind it"...)
				before := slices.Clone(room)
				d.Append(name, room[:size])
				later := lookAt(t, d)
				d.Append(name, []byte("yz"))
				d.Crash(1)
				d.Append(name, []byte("yz"))
				d.Cut(name, 0)
				d.Append(name, []byte("yz"))
				if !bytes.Equal(room, before) {
					t.Errorf("R4: Append of %d bytes to %q, or a later call, changed them", size, files)
				}
				d = made(t, 100, files)
				d.Append(name, room[:size])
				scribble(room)
				if !lookAt(t, d).same(later) {
					t.Errorf("R4: Append of %d bytes to %q: the file changed with them", size, files)
				}
			}
		}
	}
}

func TestAppendOfWhatWasRead(t *testing.T) {
	d := made(t, 100, "a:12|3 b:4|")
	for range 3 {
		b, _ := d.Read("a")
		says(t, "P7.1: Append", d.Append("b", b), api.OK)
		scribble(b)
		c, _ := d.Read("b")
		says(t, "P7.1: Append", d.Append("a", c), api.OK)
		scribble(c)
	}
	// Each one has the other's bytes, as these were then.
	a, b := "123", "4"
	for range 3 {
		b += a
		a += b
	}
	is(t, "R4: files appended to one another", d, "a:12|"+a[2:]+" b:4|"+b[1:])
}

func TestReadSharesNothing(t *testing.T) {
	d := made(t, 100, "a:12|3 b:|45 c:|")
	says(t, "P7.1: Cut", d.Cut("b", 1), api.OK)
	before := lookAt(t, d)
	for _, name := range []string{"a", "b", "c"} {
		one, _ := d.Read(name)
		another, _ := d.Read(name)
		was := slices.Clone(another)
		scribble(one)
		_ = append(one, "behind it"...)
		if !bytes.Equal(another, was) {
			t.Errorf("R4: two answers of Read(%q) share memory", name)
		}
		if !lookAt(t, d).same(before) {
			t.Errorf("R4: %q changed with what Read answered", name)
		}
		says(t, "P7.1: Append", d.Append(name, []byte("xy")), api.OK)
		d.Crash(0)
		if !bytes.Equal(another, was) {
			t.Errorf("R4: what Read(%q) answered changed with the drive", name)
		}
		before = lookAt(t, d)
	}
}

func TestNamesShareNothing(t *testing.T) {
	d := made(t, 100, "a:12|3 b:|45")
	one, another := d.Names(), d.Names()
	one[0], one[1] = "z", "y"
	_ = append(one, "x")
	if !slices.Equal(another, []string{"a", "b"}) || !slices.Equal(d.Names(), another) {
		t.Errorf("R4: Names: %q, %q", another, d.Names())
	}
	says(t, "P7.1: Remove", d.Remove("a"), api.OK)
	if !slices.Equal(another, []string{"a", "b"}) {
		t.Errorf("R4: what Names answered changed with the drive: %q", another)
	}
}

func TestSyncChangesNoNames(t *testing.T) {
	d := made(t, 100, "a:12|3 b:|45 c:|6")
	room := []string{"c", "a", "b", "a", "no"}
	for many := range len(room) + 1 {
		d.Sync(room[:many]...)
		if !slices.Equal(room, []string{"c", "a", "b", "a", "no"}) {
			t.Errorf("R4: Sync changed its names, or their room: %q", room)
		}
	}
	clear(room)
	is(t, "R4: behind Sync", d, "a:123| b:45| c:6|")
}

// plain is a drive told again, in the simplest way: of each file each byte, and whether it is loose.
type plain struct {
	most  int
	files map[string][]mark
}

type mark struct {
	b     byte
	loose bool
}

func (p *plain) used() int {
	all := 0
	for _, f := range p.files {
		all += len(f)
	}
	return all
}

func (p *plain) look() look {
	l := look{slices.Sorted(maps.Keys(p.files)), map[string]string{}, map[string]int{}, p.used()}
	for name, f := range p.files {
		l.files[name], l.loose[name] = "", 0
		for _, m := range f {
			l.files[name] += string([]byte{m.b})
			if m.loose {
				l.loose[name]++
			}
		}
	}
	return l
}

func (p *plain) sync(name string) {
	for i := range p.files[name] {
		p.files[name][i].loose = false
	}
}

func (p *plain) crash(stay int) {
	for _, name := range slices.Sorted(maps.Keys(p.files)) {
		left := []mark{}
		for _, m := range p.files[name] {
			if m.loose {
				stay--
			}
			if !m.loose || stay >= 0 {
				left = append(left, mark{m.b, false})
			}
		}
		p.files[name] = left
	}
}

// step does one call on both, and answers what each says.
func step(r *rand.Rand, d *Drive, p *plain) (string, api.Errno, api.Errno) {
	names := []string{"a", "b", "c", "d.1", "d.0", "e", "A"}
	one, two := names[r.IntN(len(names))], names[r.IntN(len(names))]
	f, there := p.files[one]
	_, otherThere := p.files[two]
	switch kind := r.IntN(8); kind {
	case 0, 1, 2:
		b := make([]byte, r.IntN(9))
		for i := range b {
			b[i] = byte(r.IntN(256))
		}
		if one == "A" {
			return "Append", d.Append(one, b), api.ErrArg
		}
		if p.used()+len(b) > p.most {
			return "Append", d.Append(one, b), api.ErrFull
		}
		p.files[one] = slices.Clone(f)
		for _, x := range b {
			p.files[one] = append(p.files[one], mark{x, true})
		}
		return "Append", d.Append(one, b), api.OK
	case 3:
		if !there || !otherThere {
			return "Sync", d.Sync(one, two), api.ErrNone
		}
		p.sync(one)
		p.sync(two)
		return "Sync", d.Sync(one, two), api.OK
	case 4:
		size := r.IntN(len(f)+4) - 2
		if !there {
			return "Cut", d.Cut(one, size), api.ErrNone
		}
		if size < 0 || size > len(f) {
			return "Cut", d.Cut(one, size), api.ErrArg
		}
		p.files[one] = slices.Clone(f[:size])
		p.sync(one)
		return "Cut", d.Cut(one, size), api.OK
	case 5:
		if two == "A" {
			return "Rename", d.Rename(one, two), api.ErrArg
		}
		if !there {
			return "Rename", d.Rename(one, two), api.ErrNone
		}
		delete(p.files, one)
		p.files[two] = f
		return "Rename", d.Rename(one, two), api.OK
	case 6:
		if !there {
			return "Remove", d.Remove(one), api.ErrNone
		}
		delete(p.files, one)
		return "Remove", d.Remove(one), api.OK
	default:
		stay := r.IntN(20) - 3
		p.crash(stay)
		d.Crash(stay)
		return "Crash", api.OK, api.OK
	}
}

// TestManySteps: calls in any order, held against the plain telling of a drive.
func TestManySteps(t *testing.T) {
	for seed := range uint64(60) {
		r := rand.New(rand.NewPCG(seed, 7))
		most := r.IntN(60)
		d, p := New(most), &plain{most, map[string][]mark{}}
		for i := range 400 {
			name, got, want := step(r, d, p)
			if l := lookAt(t, d); got != want || !l.same(p.look()) || l.used > most {
				t.Fatalf("P7.1, P7.2: seed %d, call %d, %s: %d, not %d; %#v, not %#v", seed, i, name, got, want, l, p.look())
			}
		}
	}
}

// TestGreat: many calls on a full drive, and many files, end within moments.
func TestGreat(t *testing.T) {
	d := New(api.MaxDrive)
	for range api.MaxDrive / 8 {
		says(t, "P7.1: Append", d.Append("a", []byte("12345678")), api.OK)
	}
	refused(t, "P7.1: full", d, api.ErrFull, func() api.Errno { return d.Append("a", []byte{0}) })
	if d.Used() != api.MaxDrive || d.Loose("a") != api.MaxDrive {
		t.Errorf("P7.1: %d, %d", d.Used(), d.Loose("a"))
	}
	for i := range 100000 {
		d.Cut("a", api.MaxDrive-1-i%3)
		d.Append("a", []byte{byte(i)})
	}
	d.Crash(api.MaxDrive)
	says(t, "P7.1: Remove", d.Remove("a"), api.OK)
	for i := range 50000 {
		name := fmt.Sprintf("f.%d", i)
		d.Append(name, []byte("xy"))
		d.Sync(name)
		d.Append(name, []byte("z"))
		d.Used()
		d.Loose(name)
	}
	d.Crash(25000)
	if len(d.Names()) != 50000 || d.Used() != 125000 {
		t.Errorf("P7.2: %d files, %d bytes", len(d.Names()), d.Used())
	}
}
