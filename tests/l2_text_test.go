package tests

import (
	"fmt"
	"math"
	"math/rand"
	"slices"
	"strings"
	"testing"

	"loop.example/pannage/impl"
)

// Promise 2: written bytes are found at their positions, and no other byte changes.

const letters = "abcdefghijklmnopqrstuvwxyz0123456789."

// textOf is n bytes of a file; those of another turn differ at every position.
func textOf(n, turn int) string {
	var out strings.Builder
	for i := range n {
		out.WriteByte(letters[(i*5+turn)%len(letters)])
	}
	return out.String()
}

// slots is a file in the plainest way, to hold the results against: a byte for each position, 0 where the file has none.
type slots [impl.SpanMost]byte

func slotsOf(s string) slots {
	var p slots
	for i := range len(s) {
		p[i] = s[i]
	}
	return p
}

func (p slots) text() string {
	var out strings.Builder
	for _, c := range p {
		if c != 0 {
			out.WriteByte(c)
		}
	}
	return out.String()
}

// write puts bytes into their positions one by one, then fills those in front that are still without one.
func (p slots) write(at int, data string) slots {
	for i := range len(data) {
		p[at+i] = data[i]
	}
	for i := range at {
		if p[i] == 0 {
			p[i] = '.'
		}
	}
	return p
}

func badTexts() []string {
	out := []string{
		textOf(49, 0), strings.Repeat("a", 49), strings.Repeat(".", 1000), "A", "Z", "ab c", " ", "a\n", "\x00", "a\x00b",
		"/", ":", "`", "{", "-", "_", "@", "[", "\x7f", "\x80", "\xff", "ä", "aé", "\u0661", "\ufffd",
	}
	for _, at := range []int{0, 1, 23, 47} {
		out = append(out, textOf(at, 3)+"A"+textOf(47-at, 3))
	}
	return out
}

func farNumbers() []int {
	return []int{-1, -2, -48, -49, math.MinInt, math.MinInt + 1, 49, 50, 64, 1000, math.MaxInt, math.MaxInt - 1, math.MaxInt - 47}
}

func TestTextOkOfBytes(t *testing.T) {
	for c := range 256 {
		want := strings.IndexByte(letters, byte(c)) >= 0
		for _, s := range []string{string([]byte{byte(c)}), "ab" + string([]byte{byte(c)}) + "c", textOf(47, 0) + string([]byte{byte(c)})} {
			if got := impl.TextOk(s); got != want {
				t.Errorf("%q: %v", s, got)
			}
		}
	}
}

func TestTextOkOfLengths(t *testing.T) {
	for n := range 100 {
		if got := impl.TextOk(textOf(n, 1)); got != (n <= 48) {
			t.Error(n, got)
		}
	}
	for _, s := range badTexts() {
		if impl.TextOk(s) {
			t.Errorf("accepted: %q", s)
		}
	}
}

func TestTextRead(t *testing.T) {
	for n := range 49 {
		s := textOf(n, n)
		for _, p := range allSpans() {
			var want []byte
			for i := p.Lo; i < p.Hi && i < n; i++ {
				want = append(want, s[i])
			}
			if got := impl.TextRead(s, p); got != string(want) {
				t.Fatalf("%q at %v: %q", s, p, got)
			}
		}
	}
}

func TestTextReadEdges(t *testing.T) {
	for _, c := range []struct {
		s    string
		p    impl.Span
		want string
	}{
		{"abcdef", sp(0, 6), "abcdef"}, {"abcdef", sp(5, 6), "f"}, {"abcdef", sp(5, 7), "f"}, {"abcdef", sp(6, 7), ""},
		{"abcdef", sp(7, 48), ""}, {"a.c", sp(1, 48), ".c"}, {"", sp(0, 48), ""}, {textOf(48, 0), sp(47, 48), textOf(48, 0)[47:]},
	} {
		if got := impl.TextRead(c.s, c.p); got != c.want {
			t.Errorf("%q at %v: %q", c.s, c.p, got)
		}
	}
}

func TestTextReadOfInvalid(t *testing.T) {
	for _, p := range badSpans() {
		for _, s := range []string{"", "abc", textOf(48, 0), "A", textOf(49, 0)} {
			if got := impl.TextRead(s, p); got != "" {
				t.Errorf("%q at %v: %q", s, p, got)
			}
		}
	}
	for _, s := range badTexts() {
		for _, p := range []impl.Span{sp(0, 1), sp(0, 48), sp(2, 3), sp(47, 48)} {
			if got := impl.TextRead(s, p); got != "" {
				t.Errorf("%q at %v: %q", s, p, got)
			}
		}
	}
}

// Every length of the file, every place and every length of the data.
func TestTextWriteAgainstSlots(t *testing.T) {
	for n := range 49 {
		s := textOf(n, 0)
		for at := -2; at <= 50; at++ {
			for long := range 50 {
				data := textOf(long, 7)
				got, ok := impl.TextWrite(s, at, data)
				if at < 0 || long == 0 || at+long > 48 {
					if ok || got != s {
						t.Fatalf("%q at %d of %q: %q %v", data, at, s, got, ok)
					}
					continue
				}
				if want := slotsOf(s).write(at, data).text(); !ok || got != want {
					t.Fatalf("%q at %d of %q: %q %v, not %q", data, at, s, got, ok, want)
				}
			}
		}
	}
}

func TestTextWriteEdges(t *testing.T) {
	full := textOf(48, 0)
	for _, c := range []struct {
		name, s string
		at      int
		data    string
		want    string
		ok      bool
	}{
		{"the document's example", "ab", 4, "c", "ab..c", true},
		{"to an empty file", "", 0, "x", "x", true},
		{"behind the end of an empty file", "", 3, "x", "...x", true},
		{"just at the end", "ab", 2, "cd", "abcd", true},
		{"one behind the end", "ab", 3, "cd", "ab.cd", true},
		{"over the end", "abc", 2, "xyz", "abxyz", true},
		{"up to the end", "abcd", 2, "xy", "abxy", true},
		{"in the middle", "abcdef", 2, "xy", "abxyef", true},
		{"at the start", "abcdef", 0, "x", "xbcdef", true},
		{"all", "abc", 0, "xyz", "xyz", true},
		{"the bytes that are there", "abc", 1, "b", "abc", true},
		{"a point", "abc", 1, ".", "a.c", true},
		{"ends at 48", "ab", 46, "yz", "ab" + strings.Repeat(".", 44) + "yz", true},
		{"ends at 49", "ab", 47, "yz", "ab", false},
		{"the last position", full, 47, "z", full[:47] + "z", true},
		{"at 48", full, 48, "z", full, false},
		{"all 48", "", 0, full, full, true},
		{"all 48 at 1", "", 1, full, "", false},
		{"49 bytes", "ab", 0, textOf(49, 0), "ab", false},
		{"a negative place", "abc", -1, "xy", "abc", false},
		{"no data", "abc", 1, "", "abc", false},
		{"no data behind the end", "abc", 9, "", "abc", false},
		{"data that is not a file", "abc", 1, "xA", "abc", false},
		{"a sum past the greatest int", "abc", math.MaxInt, "xy", "abc", false},
	} {
		if got, ok := impl.TextWrite(c.s, c.at, c.data); got != c.want || ok != c.ok {
			t.Errorf("%s: %q %v, not %q", c.name, got, ok, c.want)
		}
	}
}

func TestTextWriteOfInvalid(t *testing.T) {
	for _, s := range badTexts() {
		for _, at := range append(farNumbers(), 0, 1, 47, 48) {
			for _, data := range []string{"x", "", "A", textOf(48, 0), textOf(49, 0)} {
				if got, ok := impl.TextWrite(s, at, data); ok || got != "" {
					t.Fatalf("%q at %d of %q: %q %v", data, at, s, got, ok)
				}
			}
		}
	}
	for _, s := range []string{"", "abc", textOf(48, 0)} {
		for _, data := range append(badTexts(), "") {
			for _, at := range append(farNumbers(), 0, 1, 47, 48) {
				if got, ok := impl.TextWrite(s, at, data); ok || got != s {
					t.Fatalf("%q at %d of %q: %q %v", data, at, s, got, ok)
				}
			}
		}
		for _, at := range farNumbers() {
			if got, ok := impl.TextWrite(s, at, "x"); ok || got != s {
				t.Fatalf("at %d of %q: %q %v", at, s, got, ok)
			}
		}
	}
}

// What was written is read again at its place, and all else is read as before.
func TestTextWriteIsReadAgain(t *testing.T) {
	for n := range 49 {
		s := textOf(n, 2)
		for _, p := range allSpans() {
			data := textOf(p.Hi-p.Lo, 11)
			got, ok := impl.TextWrite(s, p.Lo, data)
			if !ok || impl.TextRead(got, p) != data || len(got) != max(n, p.Hi) {
				t.Fatalf("%q at %v of %q: %q %v", data, p, s, got, ok)
			}
			old := s + strings.Repeat(".", len(got)-n)
			if p.Lo > 0 && impl.TextRead(got, sp(0, p.Lo)) != old[:p.Lo] {
				t.Fatalf("%q at %v of %q: %q", data, p, s, got)
			}
			if p.Hi < 48 && impl.TextRead(got, sp(p.Hi, 48)) != old[p.Hi:] {
				t.Fatalf("%q at %v of %q: %q", data, p, s, got)
			}
		}
	}
}

func TestTextCut(t *testing.T) {
	for long := range 49 {
		s := textOf(long, 4)
		for n := range 49 {
			var want []byte
			for i := range n {
				if i < long {
					want = append(want, s[i])
				} else {
					want = append(want, '.')
				}
			}
			if got, ok := impl.TextCut(s, n); !ok || got != string(want) {
				t.Fatalf("%q to %d: %q %v", s, n, got, ok)
			}
		}
		for _, n := range farNumbers() {
			if got, ok := impl.TextCut(s, n); ok || got != s {
				t.Fatalf("%q to %d: %q %v", s, n, got, ok)
			}
		}
	}
}

func TestTextCutEdges(t *testing.T) {
	for _, c := range []struct {
		s    string
		n    int
		want string
		ok   bool
	}{
		{"abc", 0, "", true}, {"abc", 2, "ab", true}, {"abc", 3, "abc", true}, {"abc", 4, "abc.", true},
		{"abc", 48, "abc" + strings.Repeat(".", 45), true}, {"abc", 49, "abc", false}, {"abc", -1, "abc", false},
		{"", 0, "", true}, {"", 48, strings.Repeat(".", 48), true}, {"", 49, "", false},
		{textOf(48, 0), 48, textOf(48, 0), true}, {textOf(48, 0), 49, textOf(48, 0), false}, {textOf(48, 0), 0, "", true},
	} {
		if got, ok := impl.TextCut(c.s, c.n); got != c.want || ok != c.ok {
			t.Errorf("%q to %d: %q %v, not %q", c.s, c.n, got, ok, c.want)
		}
	}
	for _, s := range badTexts() {
		for _, n := range append(farNumbers(), 0, 1, len(s), 48) {
			if got, ok := impl.TextCut(s, n); ok || got != "" {
				t.Fatalf("%q to %d: %q %v", s, n, got, ok)
			}
		}
	}
}

func put(at int, data string) impl.Patch { return impl.Patch{At: at, Data: data} }

func TestTextAllEdges(t *testing.T) {
	for _, c := range []struct {
		name, s string
		list    []impl.Patch
		want    string
		ok      bool
	}{
		{"nil", "abc", nil, "abc", true},
		{"empty", "abc", []impl.Patch{}, "abc", true},
		{"nil, of an empty file", "", nil, "", true},
		{"one", "ab", []impl.Patch{put(4, "c")}, "ab..c", true},
		{"the last of two at one place stays", "abc", []impl.Patch{put(1, "x"), put(1, "y")}, "ayc", true},
		{"overlap to the right", "", []impl.Patch{put(0, "aaa"), put(2, "bbb")}, "aabbb", true},
		{"overlap to the left", "", []impl.Patch{put(2, "bbb"), put(0, "aaa")}, "aaabb", true},
		{"one in another", "", []impl.Patch{put(0, "aaaa"), put(1, "b")}, "abaa", true},
		{"one around another", "", []impl.Patch{put(1, "b"), put(0, "aaaa")}, "aaaa", true},
		{"side by side", "", []impl.Patch{put(0, "aa"), put(2, "bb")}, "aabb", true},
		{"a gap, filled later", "", []impl.Patch{put(4, "c"), put(1, "ab")}, ".ab.c", true},
		{"a point over a byte", "abc", []impl.Patch{put(5, "d"), put(0, ".")}, ".bc..d", true},
		{"up to 48", "ab", []impl.Patch{put(47, "z"), put(0, "x")}, "xb" + strings.Repeat(".", 45) + "z", true},
		{"up to 49", "ab", []impl.Patch{put(0, "x"), put(47, "yz")}, "ab", false},
		{"the first fails", "abc", []impl.Patch{put(-1, "x"), put(1, "y"), put(2, "z")}, "abc", false},
		{"one in the middle fails", "abc", []impl.Patch{put(0, "x"), put(1, ""), put(2, "z")}, "abc", false},
		{"the last fails", "abc", []impl.Patch{put(0, "x"), put(5, "y"), put(2, "Z")}, "abc", false},
		{"the only one fails", "abc", []impl.Patch{put(48, "x")}, "abc", false},
		{"one of an empty file fails", "", []impl.Patch{put(3, "x"), {}}, "", false},
	} {
		if got, ok := impl.TextAll(c.s, c.list); got != c.want || ok != c.ok {
			t.Errorf("%s: %q %v, not %q", c.name, got, ok, c.want)
		}
	}
}

func randomPatches(r *rand.Rand, n int) []impl.Patch {
	var out []impl.Patch
	for range n {
		at := r.Intn(48)
		out = append(out, put(at, textOf(1+r.Intn(min(48-at, 12)), r.Intn(len(letters)))))
	}
	return out
}

func TestTextAllAgainstSlots(t *testing.T) {
	r := rand.New(rand.NewSource(3))
	for range 2000 {
		s := textOf(r.Intn(49), r.Intn(len(letters)))
		list := randomPatches(r, r.Intn(20))
		want := slotsOf(s)
		for _, p := range list {
			want = want.write(p.At, p.Data)
		}
		if got, ok := impl.TextAll(s, list); !ok || got != want.text() {
			t.Fatalf("%v of %q: %q %v, not %q", list, s, got, ok, want.text())
		}
	}
}

// A patch that fails undoes those in front of it, wherever it is in the list.
func TestTextAllWithOneThatFails(t *testing.T) {
	r := rand.New(rand.NewSource(4))
	bad := []impl.Patch{{}, put(-1, "a"), put(48, "a"), put(47, "ab"), put(0, "A"), put(3, ""), put(0, textOf(49, 0)), put(math.MaxInt, "ab"), put(math.MinInt, "ab")}
	for _, p := range bad {
		for n := range 10 {
			s := textOf(r.Intn(49), n)
			for at := range n + 1 {
				list := slices.Insert(randomPatches(r, n), at, p)
				if got, ok := impl.TextAll(s, list); ok || got != s {
					t.Fatalf("%v of %q: %q %v", list, s, got, ok)
				}
			}
		}
	}
}

func TestTextAllOfInvalid(t *testing.T) {
	lists := [][]impl.Patch{nil, {}, {put(0, "a")}, {put(-1, "a")}, {put(0, "a"), put(47, "ab")}}
	for _, s := range badTexts() {
		for _, list := range lists {
			if got, ok := impl.TextAll(s, list); ok || got != "" {
				t.Errorf("%v of %q: %q %v", list, s, got, ok)
			}
		}
	}
}

// A list is as long as it likes: no limit is stated for it.
func TestTextAllOfMany(t *testing.T) {
	var list []impl.Patch
	for i := range 5000 {
		list = append(list, put(i%48, letters[i%36:i%36+1]))
	}
	want := slotsOf("")
	for _, p := range list {
		want = want.write(p.At, p.Data)
	}
	if got, ok := impl.TextAll("", list); !ok || got != want.text() {
		t.Errorf("%q %v, not %q", got, ok, want.text())
	}
}

func TestTextAllMemory(t *testing.T) {
	full := []impl.Patch{put(0, "ab"), put(1, "c"), put(9, "d"), put(-7, "Mark"), put(3, "e")}
	want := slices.Clone(full)
	impl.TextAll("xyz", full[:2])
	impl.TextAll("xyz", full[:4])
	if !slices.Equal(full, want) {
		t.Error(full)
	}
}

// differing is the positions in which two files are not the same; a file has 0 where it has no byte.
func differing(a, b slots) places {
	var p places
	for i := range p {
		p[i] = a[i] != b[i]
	}
	return p
}

func TestTextDiffEdges(t *testing.T) {
	var every []impl.Span
	for i := range 24 {
		every = append(every, sp(2*i, 2*i+1))
	}
	for _, c := range []struct {
		name, a, b string
		want       []impl.Span
	}{
		{"two empty files", "", "", nil},
		{"the same", "abc", "abc", nil},
		{"the same, of 48", textOf(48, 0), textOf(48, 0), nil},
		{"the first byte", "abc", "xbc", []impl.Span{sp(0, 1)}},
		{"the last byte", "abc", "abx", []impl.Span{sp(2, 3)}},
		{"all", "abc", "xyz", []impl.Span{sp(0, 3)}},
		{"all 48", textOf(48, 0), textOf(48, 1), []impl.Span{sp(0, 48)}},
		{"the last position", textOf(47, 0) + "a", textOf(47, 0) + "b", []impl.Span{sp(47, 48)}},
		{"two apart", "abcd", "xbcy", []impl.Span{sp(0, 1), sp(3, 4)}},
		{"two side by side", "abcd", "axyd", []impl.Span{sp(1, 3)}},
		{"one longer", "abc", "abcde", []impl.Span{sp(3, 5)}},
		{"one longer by points", "abc", "abc..", []impl.Span{sp(3, 5)}},
		{"one empty", "", "a.c", []impl.Span{sp(0, 3)}},
		{"one empty, one of 48", "", textOf(48, 0), []impl.Span{sp(0, 48)}},
		{"a difference just in front of the end", "abc", "abxde", []impl.Span{sp(2, 5)}},
		{"a difference apart from the end", "abc", "xbcde", []impl.Span{sp(0, 1), sp(3, 5)}},
		{"more than twelve", strings.Repeat("ab", 24), strings.Repeat("cb", 24), every},
		{"thirteen", strings.Repeat("ab", 13), strings.Repeat("cb", 13), every[:13]},
	} {
		for _, x := range [][2]string{{c.a, c.b}, {c.b, c.a}} {
			if got := impl.TextDiff(x[0], x[1]); !slices.Equal(got, c.want) {
				t.Errorf("%s: %v, not %v", c.name, got, c.want)
			}
		}
	}
}

func TestTextDiffAgainstSlots(t *testing.T) {
	r := rand.New(rand.NewSource(5))
	for range 5000 {
		a := []byte(textOf(r.Intn(49), 0))
		b := []byte(textOf(r.Intn(49), 0))
		for range r.Intn(40) {
			if len(b) > 0 {
				b[r.Intn(len(b))] = letters[r.Intn(len(letters))]
			}
		}
		want := differing(slotsOf(string(a)), slotsOf(string(b))).ranges()
		if got := impl.TextDiff(string(a), string(b)); !slices.Equal(got, want) {
			t.Fatalf("%q and %q: %v, not %v", a, b, got, want)
		}
	}
}

func TestTextDiffOfInvalid(t *testing.T) {
	for _, bad := range badTexts() {
		for _, other := range append(badTexts(), "", "abc", textOf(48, 0)) {
			if got := impl.TextDiff(bad, other); len(got) != 0 {
				t.Errorf("%q and %q: %v", bad, other, got)
			}
			if got := impl.TextDiff(other, bad); len(got) != 0 {
				t.Errorf("%q and %q: %v", other, bad, got)
			}
		}
	}
}

// A result is new memory, with its unused capacity.
func TestTextDiffMemory(t *testing.T) {
	a, b := strings.Repeat("ab", 24), strings.Repeat("cb", 20)
	first, second := impl.TextDiff(a, b), impl.TextDiff(a, b)
	keep := slices.Clone(second)
	for i := range first[:cap(first)] {
		first[:cap(first)][i] = sp(-9, -9)
	}
	if !slices.Equal(second, keep) || !slices.Equal(impl.TextDiff(a, b), keep) {
		t.Error(second)
	}
}

// A write changes exactly the positions of its data, and those that it fills behind the old end.
func TestTextDiffOfWrites(t *testing.T) {
	for n := range 49 {
		s := textOf(n, 0)
		for _, p := range allSpans() {
			got, ok := impl.TextWrite(s, p.Lo, textOf(p.Hi-p.Lo, p.Lo*5+1))
			if !ok {
				t.Fatal(s, p)
			}
			want := placesOf(p)
			for i := n; i < p.Hi; i++ {
				want[i] = true
			}
			if diff := impl.TextDiff(s, got); !slices.Equal(diff, want.ranges()) {
				t.Fatal(fmt.Sprintf("%q", s), p, diff)
			}
		}
	}
}

// The bytes of the differing ranges turn one file into another of the same length.
func TestTextDiffAsPatches(t *testing.T) {
	r := rand.New(rand.NewSource(6))
	for range 500 {
		n := r.Intn(49)
		a, b := []byte(textOf(n, 0)), []byte(textOf(n, 0))
		for range n / 2 {
			b[r.Intn(n)] = letters[r.Intn(len(letters))]
		}
		var list []impl.Patch
		for _, p := range impl.TextDiff(string(a), string(b)) {
			list = append(list, put(p.Lo, impl.TextRead(string(b), p)))
		}
		if got, ok := impl.TextAll(string(a), list); !ok || got != string(b) {
			t.Fatalf("%v of %q: %q %v, not %q", list, a, got, ok, b)
		}
	}
}
