package tests

import (
	"math"
	"math/rand"
	"slices"
	"strings"
	"testing"

	"loop.example/pannage/impl"
)

// Promise 3: each file position is stored at exactly one position of one object, and the file can be reconstructed from the objects.

func lay(size, many int) impl.Lay { return impl.Lay{Size: size, Many: many} }

func part(obj, lo, hi, from int) impl.Part {
	return impl.Part{Obj: obj, Span: sp(lo, hi), From: from}
}

func allLays() []impl.Lay {
	var out []impl.Lay
	for size := 1; size <= 8; size++ {
		for many := 1; many <= 3; many++ {
			out = append(out, lay(size, many))
		}
	}
	return out
}

func badLays() []impl.Lay {
	out := []impl.Lay{{}, lay(0, 0), lay(9, 4), lay(-1, -1)}
	for _, n := range []int{0, -1, -2, -8, 9, 10, 48, math.MaxInt, math.MinInt} {
		out = append(out, lay(n, 1), lay(n, 2), lay(n, 3))
	}
	for _, n := range []int{0, -1, -3, 4, 5, 8, 48, math.MaxInt, math.MinInt} {
		out = append(out, lay(1, n), lay(4, n), lay(8, n))
	}
	return out
}

// deck is the positions of a file in the plainest way, to hold the results against: dealt out to the objects one by one, a unit at a time.
type deck struct {
	obj  []int   // of each file position, its object
	at   []int   // of each file position, its position in the object
	unit []int   // of each file position, its unit
	back [][]int // of each object, the file positions that it has
}

// deal goes on behind the end of a file, until each object has 48 positions.
func deal(l impl.Lay) deck {
	d := deck{back: make([][]int, l.Many)}
	obj, unit, left := 0, 0, l.Size
	for len(d.back[l.Many-1]) < impl.SpanMost {
		if left == 0 {
			obj, unit, left = obj+1, unit+1, l.Size
		}
		if obj == l.Many {
			obj = 0
		}
		d.back[obj] = append(d.back[obj], len(d.obj))
		d.obj = append(d.obj, obj)
		d.at = append(d.at, len(d.back[obj])-1)
		d.unit = append(d.unit, unit)
		left--
	}
	return d
}

// long is the length of the file of objects of these lengths, even if it is greater than 48.
func (d deck) long(longs []int) int {
	out := 0
	for obj, n := range longs {
		for _, place := range d.back[obj][:n] {
			out = max(out, place+1)
		}
	}
	return out
}

// objects has what is stored of a file.
func (d deck) objects(s string) []string {
	out := make([]string, len(d.back))
	for place := range len(s) {
		out[d.obj[place]] += s[place : place+1]
	}
	return out
}

func (d deck) text(objs []string) (string, bool) {
	var longs []int
	for _, s := range objs {
		longs = append(longs, len(s))
	}
	n := d.long(longs)
	if n > impl.SpanMost {
		return "", false
	}
	out := []byte(strings.Repeat(".", n))
	for obj, s := range objs {
		for at := range len(s) {
			out[d.back[obj][at]] = s[at]
		}
	}
	return string(out), true
}

func (d deck) parts(s impl.Span) []impl.Part {
	var out []impl.Part
	for place := s.Lo; place < s.Hi; place++ {
		if place > s.Lo && d.unit[place] == d.unit[place-1] {
			out[len(out)-1].Span.Hi++
			continue
		}
		out = append(out, part(d.obj[place], d.at[place], d.at[place]+1, place))
	}
	return out
}

func TestLayOk(t *testing.T) {
	for size := -3; size < 60; size++ {
		for many := -3; many < 60; many++ {
			want := size >= 1 && size <= 8 && many >= 1 && many <= 3
			if got := impl.LayOk(lay(size, many)); got != want {
				t.Error(size, many, got)
			}
		}
	}
	for _, l := range badLays() {
		if impl.LayOk(l) {
			t.Error("accepted:", l)
		}
	}
}

func TestLayAt(t *testing.T) {
	for _, l := range allLays() {
		d := deal(l)
		for place := range impl.SpanMost {
			if obj, at := impl.LayAt(l, place); obj != d.obj[place] || at != d.at[place] {
				t.Fatal(l, place, obj, at)
			}
		}
		for _, place := range append(farNumbers(), 48) {
			if obj, at := impl.LayAt(l, place); obj != -1 || at != -1 {
				t.Fatal(l, place, obj, at)
			}
		}
	}
	for _, l := range badLays() {
		for _, place := range append(farNumbers(), 0, 1, 47, 48) {
			if obj, at := impl.LayAt(l, place); obj != -1 || at != -1 {
				t.Fatal(l, place, obj, at)
			}
		}
	}
}

func TestLayAtEdges(t *testing.T) {
	for _, c := range []struct {
		name     string
		l        impl.Lay
		place    int
		obj, at  int
		hasPlace bool
	}{
		{"the document's example", lay(2, 2), 5, 0, 3, true},
		{"the first", lay(8, 3), 0, 0, 0, true},
		{"the end of a unit", lay(8, 3), 7, 0, 7, true},
		{"the start of the next one", lay(8, 3), 8, 1, 0, true},
		{"the end of the first row", lay(8, 3), 23, 2, 7, true},
		{"the start of the second row", lay(8, 3), 24, 0, 8, true},
		{"the last", lay(8, 3), 47, 2, 15, true},
		{"the last, in a unit that is not full", lay(7, 3), 47, 0, 19, true},
		{"the last, one object alone", lay(5, 1), 47, 0, 47, true},
		{"the last, units of one", lay(1, 2), 47, 1, 23, true},
		{"one behind the last", lay(8, 3), 48, -1, -1, false},
		{"one behind the last, one object alone", lay(5, 1), 48, -1, -1, false},
		{"one before the first", lay(8, 3), -1, -1, -1, false},
		{"units of 9", lay(9, 3), 0, -1, -1, false},
		{"4 objects", lay(8, 4), 0, -1, -1, false},
	} {
		obj, at := impl.LayAt(c.l, c.place)
		if obj != c.obj || at != c.at {
			t.Errorf("%s: %d %d", c.name, obj, at)
		}
		if back := impl.LayBack(c.l, obj, at); c.hasPlace && back != c.place || !c.hasPlace && back != -1 {
			t.Errorf("%s: back to %d", c.name, back)
		}
	}
}

// No two file positions share one of an object, and each leads back to its own.
func TestLayAtIsOneToOne(t *testing.T) {
	for _, l := range allLays() {
		taken := map[[2]int]int{}
		for place := range impl.SpanMost {
			obj, at := impl.LayAt(l, place)
			if other, found := taken[[2]int{obj, at}]; found {
				t.Fatal(l, place, other, "are both at", obj, at)
			}
			taken[[2]int{obj, at}] = place
			if got := impl.LayBack(l, obj, at); got != place {
				t.Fatal(l, place, obj, at, got)
			}
		}
	}
}

func TestLayBack(t *testing.T) {
	for _, l := range allLays() {
		d := deal(l)
		found := 0
		for obj := range l.Many {
			for at := range impl.SpanMost {
				want := d.back[obj][at]
				if want >= impl.SpanMost {
					want = -1
				} else {
					found++
				}
				if got := impl.LayBack(l, obj, at); got != want {
					t.Fatal(l, obj, at, got, want)
				}
			}
		}
		if found != impl.SpanMost {
			t.Fatal(l, found)
		}
	}
}

func TestLayBackEdges(t *testing.T) {
	for _, c := range []struct {
		name    string
		l       impl.Lay
		obj, at int
		want    int
	}{
		{"the last", lay(8, 3), 2, 15, 47},
		{"one behind the last", lay(8, 3), 0, 16, -1},
		{"the last of an object that ends before", lay(8, 3), 0, 15, 31},
		{"47, in a unit that is not full", lay(7, 3), 0, 19, 47},
		{"48, in a unit that is not full", lay(7, 3), 0, 20, -1},
		{"47, one object alone", lay(3, 1), 0, 47, 47},
		{"48, one object alone", lay(3, 1), 0, 48, -1},
		{"48, as the first of an object's unit", lay(4, 2), 0, 24, -1},
		{"position 47 of an object of two", lay(4, 2), 1, 47, -1},
		{"position 48 of an object of two", lay(4, 2), 1, 48, -1},
		{"an object that is Many, of one", lay(4, 1), 1, 0, -1},
		{"an object that is Many, of two", lay(4, 2), 2, 0, -1},
		{"an object that is Many, of three", lay(4, 3), 3, 0, -1},
		{"a negative object", lay(4, 3), -1, 0, -1},
		{"a negative object, with a file position", lay(4, 3), -1, 4, -1},
		{"a negative position", lay(4, 3), 0, -1, -1},
		{"a negative position of a later object", lay(4, 3), 2, -1, -1},
	} {
		if got := impl.LayBack(c.l, c.obj, c.at); got != c.want {
			t.Errorf("%s: %d", c.name, got)
		}
	}
}

func TestLayBackOfInvalid(t *testing.T) {
	for _, l := range allLays() {
		for _, far := range append(farNumbers(), 48) {
			for n := range 4 {
				if got := impl.LayBack(l, n, far); got != -1 {
					t.Fatal(l, n, far, got)
				}
			}
			for at := -1; at < 49; at++ {
				if got := impl.LayBack(l, far, at); got != -1 {
					t.Fatal(l, far, at, got)
				}
			}
		}
		for at := range impl.SpanMost {
			if got := impl.LayBack(l, l.Many, at); got != -1 {
				t.Fatal(l, at, got)
			}
		}
	}
	for _, l := range badLays() {
		for _, obj := range append(farNumbers(), 0, 1, 2, 3) {
			for _, at := range append(farNumbers(), 0, 1, 47, 48) {
				if got := impl.LayBack(l, obj, at); got != -1 {
					t.Fatal(l, obj, at, got)
				}
			}
		}
	}
}

func TestLayPartsAgainstDeck(t *testing.T) {
	for _, l := range allLays() {
		d := deal(l)
		for _, s := range allSpans() {
			if got, want := impl.LayParts(l, s), d.parts(s); !slices.Equal(got, want) {
				t.Fatal(l, s, got, want)
			}
		}
	}
}

func TestLayPartsEdges(t *testing.T) {
	for _, c := range []struct {
		name string
		l    impl.Lay
		s    impl.Span
		want []impl.Part
	}{
		{"one object alone, side by side", lay(2, 1), sp(0, 5), []impl.Part{part(0, 0, 2, 0), part(0, 2, 4, 2), part(0, 4, 5, 4)}},
		{"one object alone, units of one", lay(1, 1), sp(3, 6), []impl.Part{part(0, 3, 4, 3), part(0, 4, 5, 4), part(0, 5, 6, 5)}},
		{"in one unit", lay(8, 3), sp(9, 11), []impl.Part{part(1, 1, 3, 9)}},
		{"one unit", lay(8, 3), sp(8, 16), []impl.Part{part(1, 0, 8, 8)}},
		{"begins in the middle", lay(4, 2), sp(3, 8), []impl.Part{part(0, 3, 4, 3), part(1, 0, 4, 4)}},
		{"ends in the middle", lay(4, 2), sp(4, 9), []impl.Part{part(1, 0, 4, 4), part(0, 4, 5, 8)}},
		{"begins and ends in the middle", lay(4, 2), sp(6, 14), []impl.Part{part(1, 2, 4, 6), part(0, 4, 8, 8), part(1, 4, 6, 12)}},
		{"on the border of two units", lay(4, 2), sp(3, 5), []impl.Part{part(0, 3, 4, 3), part(1, 0, 1, 4)}},
		{"the last position", lay(8, 3), sp(47, 48), []impl.Part{part(2, 15, 16, 47)}},
		{"the last unit, not full", lay(7, 3), sp(41, 48), []impl.Part{part(2, 13, 14, 41), part(0, 14, 20, 42)}},
		{"past the last position", lay(8, 3), sp(47, 49), nil},
		{"only past the last position", lay(8, 3), sp(48, 49), nil},
		{"empty", lay(8, 3), sp(3, 3), nil},
		{"negative", lay(8, 3), sp(-1, 3), nil},
		{"turned round", lay(8, 3), sp(4, 3), nil},
		{"units of none", lay(0, 3), sp(0, 4), nil},
		{"units of 9", lay(9, 3), sp(0, 4), nil},
		{"no object", lay(8, 0), sp(0, 4), nil},
		{"4 objects", lay(8, 4), sp(0, 4), nil},
	} {
		if got := impl.LayParts(c.l, c.s); !slices.Equal(got, c.want) {
			t.Errorf("%s: %v, not %v", c.name, got, c.want)
		}
	}
}

func TestLayPartsOfInvalid(t *testing.T) {
	for _, l := range append(allLays(), badLays()...) {
		for _, s := range badSpans() {
			if got := impl.LayParts(l, s); len(got) != 0 {
				t.Fatal(l, s, got)
			}
		}
	}
	for _, l := range badLays() {
		for _, s := range allSpans() {
			if got := impl.LayParts(l, s); len(got) != 0 {
				t.Fatal(l, s, got)
			}
		}
	}
}

// The bytes of a range are those of its parts, in order.
func TestLayPartsHaveTheBytes(t *testing.T) {
	s := textOf(48, 3)
	for _, l := range allLays() {
		objs := impl.LayOf(l, s)
		for _, p := range allSpans() {
			var got strings.Builder
			for _, x := range impl.LayParts(l, p) {
				if x.From != p.Lo+got.Len() {
					t.Fatal(l, p, x)
				}
				got.WriteString(impl.TextRead(objs[x.Obj], x.Span))
			}
			if got.String() != impl.TextRead(s, p) {
				t.Fatalf("%v %v: %q", l, p, got.String())
			}
		}
	}
}

func TestLayOf(t *testing.T) {
	for _, l := range allLays() {
		d := deal(l)
		for n := range 49 {
			s := textOf(n, n)
			if got, want := impl.LayOf(l, s), d.objects(s); !slices.Equal(got, want) {
				t.Fatalf("%v of %q: %q, not %q", l, s, got, want)
			}
		}
	}
}

func TestLayOfEdges(t *testing.T) {
	for _, c := range []struct {
		name string
		l    impl.Lay
		s    string
		want []string
	}{
		{"the document's example", lay(2, 2), "abcdef", []string{"abef", "cd"}},
		{"an empty file", lay(2, 3), "", []string{"", "", ""}},
		{"an empty file, one object alone", lay(2, 1), "", []string{""}},
		{"one object alone", lay(2, 1), "abcde", []string{"abcde"}},
		{"a unit that is not full", lay(4, 3), "abc", []string{"abc", "", ""}},
		{"one unit", lay(4, 3), "abcd", []string{"abcd", "", ""}},
		{"one more than a unit", lay(4, 3), "abcde", []string{"abcd", "e", ""}},
		{"units of one", lay(1, 3), "abcdefgh", []string{"adg", "beh", "cf"}},
		{"points", lay(1, 2), "a..b.", []string{"a..", ".b"}},
		{"48 bytes", lay(8, 3), textOf(48, 0), []string{textOf(48, 0)[:8] + textOf(48, 0)[24:32], textOf(48, 0)[8:16] + textOf(48, 0)[32:40], textOf(48, 0)[16:24] + textOf(48, 0)[40:]}},
	} {
		if got := impl.LayOf(c.l, c.s); !slices.Equal(got, c.want) {
			t.Errorf("%s: %q, not %q", c.name, got, c.want)
		}
	}
}

func TestLayOfInvalid(t *testing.T) {
	for _, s := range badTexts() {
		for _, l := range append(allLays(), badLays()...) {
			if got := impl.LayOf(l, s); len(got) != 0 {
				t.Errorf("%v of %q: %q", l, s, got)
			}
		}
	}
	for _, l := range badLays() {
		for _, s := range []string{"", "a", "abcdef", textOf(48, 0)} {
			if got := impl.LayOf(l, s); len(got) != 0 {
				t.Errorf("%v of %q: %q", l, s, got)
			}
		}
	}
}

// allLongs is all lengths that objects may have, or those of every step.
func allLongs(many int, step int) [][]int {
	out := [][]int{nil}
	for range many {
		var more [][]int
		for _, longs := range out {
			for n := 0; n <= impl.SpanMost; n += step {
				more = append(more, append(slices.Clone(longs), n))
			}
		}
		out = more
	}
	return out
}

func TestLayLong(t *testing.T) {
	for _, l := range allLays() {
		d := deal(l)
		step := 1
		if l.Many == 3 {
			step = 2
		}
		for _, longs := range append(allLongs(l.Many, step), allLongs(l.Many, 3)...) {
			want := d.long(longs)
			if want > impl.SpanMost {
				want = -1
			}
			if got := impl.LayLong(l, longs); got != want {
				t.Fatal(l, longs, got, want)
			}
		}
	}
}

func TestLayLongEdges(t *testing.T) {
	for _, c := range []struct {
		name  string
		l     impl.Lay
		longs []int
		want  int
	}{
		{"all 0", lay(2, 3), []int{0, 0, 0}, 0},
		{"all 0, one object alone", lay(2, 1), []int{0}, 0},
		{"one position of the first", lay(2, 3), []int{1, 0, 0}, 1},
		{"one position of the last", lay(2, 3), []int{0, 0, 1}, 5},
		{"a shorter one before a longer one", lay(2, 3), []int{1, 4, 0}, 10},
		{"a shorter one behind a longer one", lay(2, 3), []int{5, 0, 2}, 13},
		{"the end of the first unit", lay(4, 2), []int{4, 0}, 4},
		{"the start of the second unit of the first", lay(4, 2), []int{5, 4}, 9},
		{"one object alone, 48", lay(5, 1), []int{48}, 48},
		{"one object alone, 49", lay(5, 1), []int{49}, -1},
		{"48, on the last object", lay(8, 3), []int{16, 16, 16}, 48},
		{"48, only on the last object", lay(8, 3), []int{0, 0, 16}, 48},
		{"49", lay(8, 3), []int{17, 0, 0}, -1},
		{"49, in a unit that is not full", lay(7, 3), []int{21, 14, 14}, -1},
		{"48, in a unit that is not full", lay(7, 3), []int{20, 14, 14}, 48},
		{"all 48", lay(8, 3), []int{48, 48, 48}, -1},
		{"49 of two", lay(1, 2), []int{25, 0}, -1},
		{"48 of two", lay(1, 2), []int{24, 24}, 48},
		{"a negative length", lay(2, 3), []int{0, -1, 0}, -1},
		{"a negative length, of the last", lay(2, 3), []int{4, 4, -1}, -1},
		{"a length of 49", lay(1, 3), []int{0, 0, 49}, -1},
		{"no length", lay(2, 1), nil, -1},
		{"too few", lay(2, 3), []int{1, 1}, -1},
		{"too many", lay(2, 3), []int{1, 1, 1, 1}, -1},
		{"too many, with 0", lay(2, 2), []int{1, 1, 0}, -1},
		{"units of none", lay(0, 1), []int{0}, -1},
		{"no object", lay(4, 0), nil, -1},
		{"4 objects", lay(4, 4), []int{0, 0, 0, 0}, -1},
	} {
		if got := impl.LayLong(c.l, c.longs); got != c.want {
			t.Errorf("%s: %d, not %d", c.name, got, c.want)
		}
	}
}

func TestLayLongOfInvalid(t *testing.T) {
	for _, l := range allLays() {
		for n := range 8 {
			if n == l.Many {
				continue
			}
			if got := impl.LayLong(l, make([]int, n)); got != -1 {
				t.Fatal(l, n, got)
			}
		}
		for at := range l.Many {
			for _, far := range farNumbers() {
				longs := make([]int, l.Many)
				longs[at] = far
				if got := impl.LayLong(l, longs); got != -1 {
					t.Fatal(l, longs, got)
				}
			}
		}
	}
	for _, l := range badLays() {
		for n := range 10 {
			if got := impl.LayLong(l, make([]int, n)); got != -1 {
				t.Fatal(l, n, got)
			}
		}
	}
}

// Every file is what its objects say, the points at its end too.
func TestLayTextOfLayOf(t *testing.T) {
	for _, l := range allLays() {
		for n := range 49 {
			for _, s := range []string{textOf(n, n), strings.Repeat(".", n), strings.Repeat("a", n), textOf(n/2, 0) + strings.Repeat(".", n-n/2)} {
				objs := impl.LayOf(l, s)
				if got, ok := impl.LayText(l, objs); !ok || got != s {
					t.Fatalf("%v of %q: %q %v, not %q", l, objs, got, ok, s)
				}
				var longs []int
				for _, x := range objs {
					longs = append(longs, len(x))
				}
				if got := impl.LayLong(l, longs); got != n {
					t.Fatal(l, longs, got, n)
				}
			}
		}
	}
}

func TestLayTextAgainstDeck(t *testing.T) {
	r := rand.New(rand.NewSource(7))
	for _, l := range allLays() {
		d := deal(l)
		fine := 0
		for range 1000 {
			var objs []string
			most := 1 + r.Intn(49)
			for range l.Many {
				objs = append(objs, textOf(r.Intn(most), r.Intn(len(letters))))
			}
			want, wantOk := d.text(objs)
			if got, ok := impl.LayText(l, objs); got != want || ok != wantOk {
				t.Fatalf("%v of %q: %q %v, not %q %v", l, objs, got, ok, want, wantOk)
			}
			if wantOk {
				fine++
			}
		}
		if fine < 100 {
			t.Error("too few files:", l, fine)
		}
	}
}

func TestLayTextEdges(t *testing.T) {
	full := textOf(48, 0)
	for _, c := range []struct {
		name string
		l    impl.Lay
		objs []string
		want string
		ok   bool
	}{
		{"the document's example", lay(2, 2), []string{"abef", "cd"}, "abcdef", true},
		{"all empty", lay(2, 3), []string{"", "", ""}, "", true},
		{"one object alone", lay(2, 1), []string{"abcde"}, "abcde", true},
		{"one object alone, empty", lay(2, 1), []string{""}, "", true},
		{"one object alone, 48", lay(5, 1), []string{full}, full, true},
		{"one object alone, 49", lay(5, 1), []string{textOf(49, 0)}, "", false},
		{"only the first object", lay(2, 2), []string{"abcd", ""}, "ab..cd", true},
		{"only the last object", lay(2, 3), []string{"", "", "a"}, "....a", true},
		{"an object in the middle lacks all", lay(2, 3), []string{"ab", "", "ef"}, "ab..ef", true},
		{"an object lacks the end of its unit", lay(4, 2), []string{"a", "b"}, "a...b", true},
		{"an object lacks what another one has two rows later", lay(1, 2), []string{"a", "xyz"}, "ax.y.z", true},
		{"a point that is stored at the end", lay(2, 2), []string{"ab", "."}, "ab.", true},
		{"points alone", lay(1, 2), []string{"", ".."}, "....", true},
		{"only the last position", lay(8, 3), []string{"", "", textOf(15, 0) + "z"}, strings.Repeat(".", 16) + textOf(8, 0) + strings.Repeat(".", 16) + textOf(15, 0)[8:] + "z", true},
		{"a file of 49", lay(8, 3), []string{textOf(17, 0), "", ""}, "", false},
		{"a file of 49, of points", lay(8, 3), []string{strings.Repeat(".", 17), "", ""}, "", false},
		{"all 48", lay(8, 3), []string{full, full, full}, "", false},
		{"the first is not a file", lay(2, 2), []string{"A", "cd"}, "", false},
		{"the last is not a file", lay(2, 2), []string{"ab", "c d"}, "", false},
		{"no object", lay(2, 1), nil, "", false},
		{"too few", lay(2, 2), []string{"ab"}, "", false},
		{"too many", lay(2, 2), []string{"ab", "cd", "ef"}, "", false},
		{"too many, empty", lay(2, 1), []string{"ab", ""}, "", false},
		{"too many, not a file", lay(2, 1), []string{"ab", "A"}, "", false},
		{"units of none", lay(0, 1), []string{"ab"}, "", false},
		{"a layout of no object", lay(2, 0), nil, "", false},
		{"4 objects", lay(2, 4), []string{"", "", "", ""}, "", false},
	} {
		if got, ok := impl.LayText(c.l, c.objs); got != c.want || ok != c.ok {
			t.Errorf("%s: %q %v, not %q", c.name, got, ok, c.want)
		}
	}
}

func TestLayTextOfInvalid(t *testing.T) {
	for _, l := range allLays() {
		for _, bad := range badTexts() {
			for at := range l.Many {
				objs := make([]string, l.Many)
				objs[at] = bad
				if got, ok := impl.LayText(l, objs); ok || got != "" {
					t.Fatalf("%v of %q: %q %v", l, objs, got, ok)
				}
			}
		}
		for n := range 8 {
			if n == l.Many {
				continue
			}
			if got, ok := impl.LayText(l, make([]string, n)); ok || got != "" {
				t.Fatal(l, n, got, ok)
			}
		}
	}
	for _, l := range badLays() {
		for n := range 10 {
			if got, ok := impl.LayText(l, make([]string, n)); ok || got != "" {
				t.Fatal(l, n, got, ok)
			}
		}
	}
}

// Arguments stay as they are, beyond their length too.
func TestLayReadOnly(t *testing.T) {
	longs := []int{4, 2, 1, -7, 3}
	objs := []string{"abcd", "ef", "g", "Mark", "h"}
	wantLongs, wantObjs := slices.Clone(longs), slices.Clone(objs)
	for n := range 6 {
		impl.LayLong(lay(2, 3), longs[:n])
		impl.LayText(lay(2, 3), objs[:n])
	}
	if !slices.Equal(longs, wantLongs) || !slices.Equal(objs, wantObjs) {
		t.Error(longs, objs)
	}
}

// A result is new memory, with its unused capacity.
func TestLayMemory(t *testing.T) {
	for _, l := range allLays() {
		for _, s := range []impl.Span{sp(0, 48), sp(3, 12), sp(7, 8)} {
			first, second := impl.LayParts(l, s), impl.LayParts(l, s)
			keep := slices.Clone(second)
			for i := range first[:cap(first)] {
				first[:cap(first)][i] = part(-9, -9, -9, -9)
			}
			if !slices.Equal(second, keep) || !slices.Equal(impl.LayParts(l, s), keep) {
				t.Error(l, s, second)
			}
		}
		first, second := impl.LayOf(l, "abcdefghij"), impl.LayOf(l, "abcdefghij")
		keep := slices.Clone(second)
		for i := range first[:cap(first)] {
			first[:cap(first)][i] = "Mark"
		}
		if !slices.Equal(second, keep) || !slices.Equal(impl.LayOf(l, "abcdefghij"), keep) {
			t.Error(l, second)
		}
	}
}
