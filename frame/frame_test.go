package frame

import (
	"bytes"
	"encoding/binary"
	"hash/fnv"
	"math"
	"slices"
	"sync"
	"testing"

	"grapevine/api"
)

// sealed answers bytes with their digest behind them, worked out apart from the program's own way.
func sealed(b []byte) []byte {
	sum := fnv.New64a()
	sum.Write(b)
	return sum.Sum(slices.Clone(b))
}

// framed are the bytes of a frame, written down apart from the program's own way; kind and size need not be right.
func framed(kind byte, size uint16, body string) []byte {
	head := binary.BigEndian.AppendUint16([]byte{71, kind}, size)
	return sealed(append(head, body...))
}

// must answers the frame that Lay must answer.
func must(t *testing.T, kind int, body string) []byte {
	t.Helper()
	b, e := Lay(kind, []byte(body))
	if want := framed(byte(kind), uint16(len(body)), body); !bytes.Equal(b, want) || e != api.OK {
		t.Fatalf("P6.1: Lay(%d, %d bytes): %d bytes, %d", kind, len(body), len(b), e)
	}
	return b
}

// found asks that Next finds that frame there.
func found(t *testing.T, b []byte, at, kind int, body string) {
	t.Helper()
	gotKind, gotBody, behind, ok := Next(b, at)
	if gotKind != kind || string(gotBody) != body || behind != at+4+len(body)+8 || !ok {
		t.Errorf("P6.1: Next at %d: %d, %d bytes, %d, %v, not kind %d and %d bytes", at, gotKind, len(gotBody), behind, ok, kind, len(body))
	}
}

// none asks that Next finds no frame there, and answers zero values beside its false.
func none(t *testing.T, why string, b []byte, at int) {
	t.Helper()
	if kind, body, behind, ok := Next(b, at); kind != 0 || len(body) != 0 || behind != 0 || ok {
		t.Errorf("%s: Next at %d: %d, %v, %d, %v", why, at, kind, body, behind, ok)
	}
}

// counted asks what Count answers.
func counted(t *testing.T, why string, b []byte, many, end int) {
	t.Helper()
	if gotMany, gotEnd := Count(b); gotMany != many || gotEnd != end {
		t.Errorf("%s: Count: %d, %d, not %d, %d", why, gotMany, gotEnd, many, end)
	}
}

// bodies are what frames may hold: none, few bytes, and many, with bytes in them that could be a frame's.
func bodies() []string {
	return []string{
		"", "\x00", "G", "\xff", "hello", "GGGG", "G\x01\x00\x00", "a\x00b\xff",
		string(framed(2, 3, "abc")), string(bytes.Repeat([]byte{71}, 255)), string(bytes.Repeat([]byte{0}, 256)), string(bytes.Repeat([]byte{255, 1}, 129)),
	}
}

func TestLayWrittenOut(t *testing.T) {
	for _, x := range []struct {
		kind int
		body string
		want []byte
	}{
		{3, "hello", []byte{71, 3, 0, 5, 'h', 'e', 'l', 'l', 'o', 60, 141, 147, 36, 114, 159, 4, 64}},
		{1, "", []byte{71, 1, 0, 0, 116, 137, 239, 124, 45, 132, 1, 45}},
		{255, "\x00\xff", []byte{71, 255, 0, 2, 0, 255, 212, 43, 146, 244, 137, 0, 12, 44}},
		{2, "G", []byte{71, 2, 0, 1, 71, 170, 118, 55, 232, 84, 175, 52, 72}},
	} {
		if got, e := Lay(x.kind, []byte(x.body)); !bytes.Equal(got, x.want) || e != api.OK {
			t.Errorf("P6.1: Lay(%d, %q): %v, %d", x.kind, x.body, got, e)
		}
		found(t, x.want, 0, x.kind, x.body)
		counted(t, "P6.1: a frame", x.want, 1, len(x.want))
	}
}

func TestLayEachKind(t *testing.T) {
	for kind := 1; kind <= 255; kind++ {
		for _, body := range []string{"", "to be"} {
			found(t, must(t, kind, body), 0, kind, body)
		}
	}
	for _, kind := range []int{0, 256, 257, -1, -2, -255, -256, 512, 1 + 1<<32, math.MaxInt, math.MinInt, math.MinInt + 1} {
		for _, body := range [][]byte{nil, {}, []byte("to be"), make([]byte, 65535), make([]byte, 65536)} {
			if b, e := Lay(kind, body); b != nil || e != api.ErrArg {
				t.Errorf("P6.1: Lay(%d, %d bytes): %v, %d", kind, len(body), b, e)
			}
		}
	}
}

func TestLayEachLength(t *testing.T) {
	for _, size := range []int{0, 1, 2, 254, 255, 256, 257, 511, 512, 32767, 32768, 65279, 65280, 65534, 65535} {
		body := string(bytes.Repeat([]byte{'x'}, size))
		b := must(t, 7, body)
		if len(b) != size+12 || b[2] != byte(size/256) || b[3] != byte(size%256) {
			t.Errorf("P6.1: Lay of %d bytes: %d, %v", size, len(b), b[:4])
		}
		found(t, b, 0, 7, body)
		counted(t, "P6.1: a great frame", b, 1, size+12)
	}
	for _, size := range []int{65536, 65537, 65536 + 5, 1 << 17, 1 << 20} {
		if b, e := Lay(7, make([]byte, size)); b != nil || e != api.ErrArg {
			t.Errorf("P6.1: Lay of %d bytes: %d, %d", size, len(b), e)
		}
	}
}

func TestLayNoByte(t *testing.T) {
	for _, body := range [][]byte{nil, {}, make([]byte, 0, 20)} {
		if b, e := Lay(1, body); !bytes.Equal(b, framed(1, 0, "")) || e != api.OK {
			t.Errorf("P6.1: Lay of no byte: %v, %d", b, e)
		}
	}
}

func TestNextBehindOtherBytes(t *testing.T) {
	for _, body := range bodies() {
		b := must(t, 9, body)
		for _, ahead := range []string{"", "\x00", "G", "GG", "G\x09\x00\x00", "something else", string(b), string(b[:len(b)-1])} {
			for _, behind := range []string{"", "\x00", "G\x03", string(b)} {
				found(t, slices.Concat([]byte(ahead), b, []byte(behind)), len(ahead), 9, body)
			}
		}
	}
}

func TestNextPlaces(t *testing.T) {
	b := must(t, 3, "hello")
	all := slices.Concat([]byte{9, 71}, b, []byte{71, 3})
	for at := -20; at < len(all)+20; at++ {
		if at != 2 {
			none(t, "P6.1: no frame begins there", all, at)
		}
	}
	found(t, all, 2, 3, "hello")
	for _, bs := range [][]byte{nil, {}, {71}, b, all} {
		for _, at := range []int{-1, -4, -12, -len(bs), -len(bs) - 1, len(bs), len(bs) + 1, len(bs) + 12, math.MaxInt, math.MaxInt - 1, math.MaxInt - 12, math.MinInt, math.MinInt + 1, math.MinInt + 12, 1 << 32, -1 << 32, 1 << 62, -1 << 62} {
			none(t, "R1: a place without bytes", bs, at)
		}
	}
}

func TestNextOneBehindTheOther(t *testing.T) {
	var all []byte
	for i, body := range bodies() {
		all = append(all, must(t, i+1, body)...)
	}
	at := 0
	for i, body := range bodies() {
		found(t, all, at, i+1, body)
		_, _, at, _ = Next(all, at)
	}
	if at != len(all) {
		t.Errorf("P6.1: the last place: %d, not %d", at, len(all))
	}
	counted(t, "P6.1: all", all, len(bodies()), len(all))
}

// TestNextNoFrames: bytes with a right digest that are no frame, and bytes that begin as a frame does.
func TestNextNoFrames(t *testing.T) {
	for why, b := range map[string][]byte{
		"71 alone":                        {71},
		"71 many times":                   bytes.Repeat([]byte{71}, 400),
		"71 and zeros":                    append([]byte{71}, make([]byte, 40)...),
		"a head alone":                    {71, 1, 0, 0},
		"a head of kind 1, and no digest": append([]byte{71, 1, 0, 0}, make([]byte, 8)...),
		"zeros":                           make([]byte, 40),
		"kind 0":                          framed(0, 0, ""),
		"kind 0, with bytes":              framed(0, 5, "hello"),
		"70 for 71":                       sealed([]byte{70, 1, 0, 0}),
		"72 for 71":                       sealed([]byte{72, 1, 0, 1, 'x'}),
		"0 for 71":                        sealed([]byte{0, 1, 0, 0}),
		"a length that says more by one":  framed(3, 6, "hello"),
		"a length that says more by 256":  framed(3, 261, "hello"),
		"the greatest length":             framed(3, 65535, "hello"),
		"more by as much as a digest has": framed(3, 13, "hello"),
		"a length that says less by one":  framed(3, 4, "hello"),
		"a length of none":                framed(3, 0, "hello"),
		"a length, the lowest byte first": sealed([]byte{71, 3, 5, 0, 'h', 'e', 'l', 'l', 'o'}),
		"a digest, its lowest byte first": turned(framed(3, 5, "hello"), 8),
		"a digest of what it holds alone": slices.Concat([]byte{71, 3, 0, 5}, sealed([]byte("hello"))),
		"a digest of all but the 71":      slices.Concat([]byte{71}, sealed([]byte{3, 0, 5, 'h', 'e', 'l', 'l', 'o'})),
	} {
		none(t, "P6.1: "+why, b, 0)
		counted(t, "P6.1: "+why, b, 0, 0)
		none(t, "P6.1: behind others, "+why, append([]byte("ahead"), b...), 5)
	}
}

// turned answers bytes, the last so many of them in the other order.
func turned(b []byte, many int) []byte {
	slices.Reverse(b[len(b)-many:])
	return b
}

// TestNextLengthSaysLess: a frame ends where its length and its digest say, whatever stands behind it.
func TestNextLengthSaysLess(t *testing.T) {
	b := append(framed(3, 4, "hell"), "o and more"...)
	found(t, b, 0, 3, "hell")
	counted(t, "P6.1: a frame and others", b, 1, 16)
}

func TestCountExample(t *testing.T) {
	for _, body := range bodies() {
		b := must(t, 4, body)
		counted(t, "P6.1: a frame and half a one", append(slices.Clone(b), b[:len(b)/2]...), 1, len(b))
	}
}

func TestCount(t *testing.T) {
	a, b, c := must(t, 1, ""), must(t, 255, string(bytes.Repeat([]byte{71}, 300))), must(t, 2, "to be")
	spoilt := slices.Clone(c)
	spoilt[6] ^= 1
	for _, x := range []struct {
		why       string
		b         []byte
		many, end int
	}{
		{"nil", nil, 0, 0}, {"no byte", []byte{}, 0, 0}, {"one", a, 1, 12}, {"the same twice", slices.Concat(a, a), 2, 24},
		{"three", slices.Concat(a, b, c), 3, 12 + 312 + 17},
		{"three, and a byte", slices.Concat(a, b, c, []byte{0}), 3, 12 + 312 + 17},
		{"three, and a 71", slices.Concat(a, b, c, []byte{71}), 3, 12 + 312 + 17},
		{"two, and one without its last byte", slices.Concat(c, a, b[:311]), 2, 29},
		{"two, and one without its first byte", slices.Concat(c, a, b[1:]), 2, 29},
		{"two, and one of kind 0", slices.Concat(c, a, framed(0, 0, "")), 2, 29},
		{"one, one that is spoilt, one", slices.Concat(b, spoilt, a), 1, 312},
		{"one behind a byte", slices.Concat([]byte{0}, a), 0, 0},
		{"one behind a 71", slices.Concat([]byte{71}, a), 0, 0},
		{"two behind one that is spoilt", slices.Concat(spoilt, a, b), 0, 0},
		{"one, a byte, one", slices.Concat(b, []byte{0}, a), 1, 312},
		{"without the first byte", b[1:], 0, 0},
	} {
		counted(t, "P6.1: "+x.why, x.b, x.many, x.end)
	}
}

func TestCountMany(t *testing.T) {
	b := must(t, 3, "hello")
	for _, many := range []int{2, 255, 256, 1000, 100000} {
		counted(t, "P6.1: many", bytes.Repeat(b, many), many, many*len(b))
	}
	counted(t, "P6.1: many, cut short", bytes.Repeat(b, 1000)[:1000*len(b)-1], 999, 999*len(b))
}

// TestCountIsByNext: at whatever place bytes are cut, those frames count that are whole ahead of it.
func TestCountIsByNext(t *testing.T) {
	var all []byte
	var ends []int
	for i, body := range bodies() {
		all = append(all, must(t, 255-i, body)...)
		ends = append(ends, len(all))
	}
	many, end := 0, 0
	for cut := range len(all) + 1 {
		if many < len(ends) && cut == ends[many] {
			end = ends[many]
			many++
		}
		counted(t, "P6.2: cut short", all[:cut], many, end)
		if end < cut {
			none(t, "P6.2: cut short", all[:cut], end)
		}
	}
}

func TestCutShort(t *testing.T) {
	for _, body := range bodies() {
		b := must(t, 3, body)
		for cut := range b {
			none(t, "P6.2: cut short", b[:cut], 0)
			none(t, "P6.2: cut short, the rest in its spare room", b[:cut:len(b)], 0)
			none(t, "P6.2: cut short, behind others", append([]byte("ahead"), b[:cut]...), 5)
			counted(t, "P6.2: cut short", b[:cut], 0, 0)
		}
	}
	great := must(t, 3, string(bytes.Repeat([]byte{'x'}, 65535)))
	for _, cut := range []int{1, 4, 12, 255, 256, 65535, 65538, 65539, len(great) - 1} {
		none(t, "P6.2: a great one cut short", great[:cut], 0)
	}
}

// TestAnotherByte: each byte but those of the length, each other value; the digest's bytes too.
func TestAnotherByte(t *testing.T) {
	for _, body := range []string{"", "G", "hello", "G\x01\x00\x00"} {
		for _, kind := range []int{1, 3, 71, 255} {
			b := must(t, kind, body)
			for i := range b {
				if i == 2 || i == 3 {
					continue
				}
				for by := 1; by < 256; by++ {
					spoilt := slices.Clone(b)
					spoilt[i] ^= byte(by)
					none(t, "P6.2: another byte", spoilt, 0)
					counted(t, "P6.2: another byte", append(spoilt, b...), 0, 0)
				}
			}
		}
	}
}

func TestAnotherByteOfAGreatOne(t *testing.T) {
	b := must(t, 8, string(bytes.Repeat([]byte{0, 71, 255}, 21845)))
	for _, i := range []int{0, 1, 4, 5, 259, 260, 32768, 65538, 65539, 65540, 65545, len(b) - 1} {
		for bit := range 8 {
			spoilt := slices.Clone(b)
			spoilt[i] ^= 1 << bit
			none(t, "P6.2: another byte of a great one", spoilt, 0)
		}
	}
}

// scribble changes bytes, and their spare room.
func scribble(b []byte) {
	b = b[:cap(b)]
	for i := range b {
		b[i] ^= 255
	}
}

func TestLayChangesNothing(t *testing.T) {
	for _, kind := range []int{0, 1, 255, 256} {
		for _, size := range []int{0, 5, 300, 65535, 65536} {
			room := append(bytes.Repeat([]byte{'x'}, size), "room behind it, of more bytes than a digest has"...)
			before := slices.Clone(room)
			b, e := Lay(kind, room[:size])
			scribble(b)
			if !bytes.Equal(room, before) {
				t.Errorf("R4: Lay(%d) of %d bytes changed them, or shares them", kind, size)
			}
			again, e2 := Lay(kind, room[:size])
			kept := slices.Clone(again)
			scribble(room)
			if !bytes.Equal(again, kept) {
				t.Errorf("R4: Lay(%d) of %d bytes: its answer changed with them", kind, size)
			}
			if e != e2 || (e == api.OK) != (len(again) == size+12) {
				t.Errorf("R5: Lay(%d) of %d bytes: %d, then %d", kind, size, e, e2)
			}
		}
	}
}

func TestNextChangesNothing(t *testing.T) {
	for _, body := range bodies() {
		frame := must(t, 6, body)
		room := slices.Concat([]byte("ahead"), frame, []byte("room behind it"))
		before := slices.Clone(room)
		b := room[: 5+len(frame) : len(room)]
		for _, at := range []int{-1, 0, 4, 6, len(b), len(b) + 3} {
			none(t, "P6.1: no frame begins there", b, at)
		}
		_, got, _, _ := Next(b, 5)
		_, other, _, _ := Next(b, 5)
		scribble(got)
		if !bytes.Equal(room, before) {
			t.Errorf("R4: Next of %q changed its bytes, or shares them", body)
		}
		if string(other) != body {
			t.Errorf("R4: Next of %q: two answers share memory", body)
		}
		scribble(room)
		if string(other) != body {
			t.Errorf("R4: Next of %q: its answer changed with its bytes", body)
		}
	}
}

func TestCountChangesNothing(t *testing.T) {
	whole := slices.Concat(must(t, 1, "to"), must(t, 2, "be"), must(t, 3, "or"))
	for cut := range len(whole) + 1 {
		room := slices.Clone(whole)
		many, end := Count(room[:cut])
		if !bytes.Equal(room, whole) {
			t.Errorf("R4: Count of %d bytes changed them", cut)
		}
		// What stands in the spare room does not count.
		if many != cut/14 || end != cut/14*14 {
			t.Errorf("P6.1: Count of %d bytes: %d, %d", cut, many, end)
		}
	}
}

func TestManyAtOneTime(t *testing.T) {
	body := []byte("to be")
	all := slices.Concat(must(t, 1, "or"), must(t, 2, "to be"))
	var wait sync.WaitGroup
	for range 8 {
		wait.Go(func() {
			for range 100 {
				b, e := Lay(2, body)
				_, got, behind, ok := Next(all, 14)
				many, end := Count(all)
				if !bytes.Equal(b, all[14:]) || e != api.OK || string(got) != "to be" || behind != len(all) || !ok || many != 2 || end != len(all) {
					t.Error("R5: unlike answers at one time")
				}
			}
		})
	}
	wait.Wait()
}
