package tests

import (
	"fmt"
	"math"
	"math/rand"
	"slices"
	"strings"
	"testing"

	"loop.example/pannage/impl"
)

// Promise 6: a client reads what it wrote, and OwnDrop discards no modification that has not been written back.

// notes is a cache in the plainest way, to hold the results against: for each position its byte, and
// '.' where it is not cached, 'h' where it is cached, or 'd' where it was modified too.
type notes struct {
	text [impl.SpanMost]byte
	has  [impl.SpanMost]byte
}

// noted is notes of two lines, with '.' at the positions behind the end of a line.
func noted(text, has string) notes {
	var n notes
	copy(n.text[:], text+strings.Repeat(".", impl.SpanMost))
	copy(n.has[:], has+strings.Repeat(".", impl.SpanMost))
	return n
}

// where has the positions at which one of these is.
func (n notes) where(these string) places {
	var p places
	for i, c := range n.has {
		p[i] = strings.IndexByte(these, c) >= 0
	}
	return p
}

// own is the notes as a cache, and whether a cache may have so many ranges.
func (n notes) own() (impl.Own, bool) {
	o := impl.Own{Text: string(n.text[:]), Have: n.where("hd").ranges(), Dirty: n.where("d").ranges()}
	return o, len(o.Have) <= 12 && len(o.Dirty) <= 12
}

func ownOf(n notes) impl.Own {
	o, ok := n.own()
	if !ok {
		panic("notes of too many ranges")
	}
	return o
}

func (n notes) fill(p impl.Span, data string) notes {
	for i := p.Lo; i < p.Hi; i++ {
		if n.has[i] != 'd' {
			n.text[i], n.has[i] = data[i-p.Lo], 'h'
		}
	}
	return n
}

func (n notes) write(at int, data string) notes {
	for i := range len(data) {
		n.text[at+i], n.has[at+i] = data[i], 'd'
	}
	return n
}

func (n notes) clean(p impl.Span) notes {
	for i := p.Lo; i < p.Hi; i++ {
		if n.has[i] == 'd' {
			n.has[i] = 'h'
		}
	}
	return n
}

// drop does not ask whether a position was modified.
func (n notes) drop(p impl.Span) notes {
	for i := p.Lo; i < p.Hi; i++ {
		n.text[i], n.has[i] = '.', '.'
	}
	return n
}

// any says whether one of these is somewhere in p.
func (n notes) any(p impl.Span, these string) bool {
	return strings.ContainsAny(string(n.has[p.Lo:p.Hi]), these)
}

func (n notes) read(p impl.Span) (string, bool) {
	if n.any(p, ".") {
		return "", false
	}
	return string(n.text[p.Lo:p.Hi]), true
}

// patches are made byte by byte: one that comes right behind another makes it longer.
func (n notes) patches(p impl.Span) []impl.Patch {
	var out []impl.Patch
	for i := p.Lo; i < p.Hi; i++ {
		switch {
		case n.has[i] != 'd':
		case i > p.Lo && n.has[i-1] == 'd':
			out[len(out)-1].Data += string(n.text[i : i+1])
		default:
			out = append(out, put(i, string(n.text[i:i+1])))
		}
	}
	return out
}

func sameOwns(a, b impl.Own) bool {
	return a.Text == b.Text && slices.Equal(a.Have, b.Have) && slices.Equal(a.Dirty, b.Dirty)
}

func noOwn(o impl.Own) bool { return o.Text == "" && len(o.Have) == 0 && len(o.Dirty) == 0 }

// cloneOwn has lists without unused capacity.
func cloneOwn(o impl.Own) impl.Own {
	return impl.Own{Text: o.Text, Have: slices.Clip(slices.Clone(o.Have)), Dirty: slices.Clip(slices.Clone(o.Dirty))}
}

// longNotes have lists of 12 ranges, so that a position more or less is a range too many.
func longNotes() []notes {
	full := textOf(48, 3)
	var out []notes
	for _, has := range []string{
		strings.Repeat("h.", 12), strings.Repeat("d.", 12), strings.Repeat("hd", 12), strings.Repeat("hd", 12) + strings.Repeat("h", 24),
		strings.Repeat("hhh.", 12), strings.Repeat("ddd.", 12), strings.Repeat("hddd", 12), strings.Repeat("dddh", 12), strings.Repeat("hdh.", 12),
		strings.Repeat(".", 24) + strings.Repeat(".d", 12), strings.Repeat("..dh", 12), strings.Repeat("dh.h", 6),
	} {
		n := noted(full, has)
		for i := range n.has {
			if n.has[i] == '.' {
				n.text[i] = '.'
			}
		}
		// With points alone, no byte tells what is cached.
		out = append(out, n, noted("", has))
	}
	return out
}

// randomNotes are caches that are valid, the same ones at each run.
func randomNotes(n int) []notes {
	r := rand.New(rand.NewSource(31))
	full, all := textOf(48, 0), strings.Repeat("h", 48)
	out := append(longNotes(), noted("", ""), noted(full, all), noted("", all), noted(full, strings.Repeat("d", 48)), noted("", strings.Repeat("d", 48)))
	for len(out) < n {
		next, turn := noted("", ""), 1+r.Intn(12)
		c := byte('.')
		for i := range impl.SpanMost {
			if i == 0 || r.Intn(turn) == 0 {
				c = ".hd"[r.Intn(3)]
			}
			next.has[i] = c
			if c != '.' {
				next.text[i] = letters[r.Intn(len(letters))]
			}
		}
		if _, ok := next.own(); ok {
			out = append(out, next)
		}
	}
	return out
}

// badOwns are not valid, each for one reason as far as that can be, in each of its places.
func badOwns() []impl.Own {
	// No point is in full: where nothing is cached, it would be no fault.
	blank, full, all := strings.Repeat(".", 48), strings.Repeat("abcdef", 8), []impl.Span{sp(0, 48)}
	out := []impl.Own{{}, {Have: all}, {Have: all, Dirty: all}}
	for _, n := range []int{1, 2, 8, 40, 46, 47, 49, 50, 56, 96} {
		out = append(out, impl.Own{Text: strings.Repeat(".", n)}, impl.Own{Text: textOf(n, 0), Have: all}, impl.Own{Text: textOf(n, 0), Have: all, Dirty: all},
			impl.Own{Text: textOf(min(n, 3), 0) + strings.Repeat(".", max(n-3, 0)), Have: []impl.Span{sp(0, 3)}})
	}
	for _, c := range []string{"A", "Z", " ", "\x00", "\n", "/", ":", "`", "{", "-", "\x80", "\xff"} {
		for _, at := range []int{0, 1, 23, 46, 47} {
			out = append(out, impl.Own{Text: full[:at] + c + full[at+1:], Have: all}, impl.Own{Text: full[:at] + c + full[at+1:], Have: all, Dirty: all},
				impl.Own{Text: blank[:at] + c + blank[at+1:]})
		}
	}
	for _, list := range badLists() {
		out = append(out, impl.Own{Text: blank, Have: list}, impl.Own{Text: full, Have: list}, impl.Own{Text: full, Have: all, Dirty: list},
			impl.Own{Text: blank, Have: list, Dirty: list}, impl.Own{Text: blank, Dirty: list})
	}
	for at := range 48 {
		here := sp(at, at+1)
		rest := placesOf(all...).each(placesOf(here), cut).list()
		out = append(out, impl.Own{Text: blank[:at] + "a" + blank[at+1:]}, impl.Own{Text: full, Have: rest},
			impl.Own{Text: blank, Dirty: []impl.Span{here}}, impl.Own{Text: full[:at] + "." + full[at+1:], Have: rest, Dirty: []impl.Span{here}},
			impl.Own{Text: full[:at] + "." + full[at+1:], Have: rest, Dirty: all})
	}
	return append(out,
		impl.Own{Text: "abcd" + blank[4:], Have: []impl.Span{sp(0, 4)}, Dirty: []impl.Span{sp(0, 5)}},
		impl.Own{Text: ".bcd" + blank[4:], Have: []impl.Span{sp(1, 4)}, Dirty: []impl.Span{sp(0, 4)}},
		impl.Own{Text: "ab.d" + blank[4:], Have: []impl.Span{sp(0, 2), sp(3, 4)}, Dirty: []impl.Span{sp(0, 4)}},
		impl.Own{Text: "abcd" + blank[4:], Have: []impl.Span{sp(0, 4)}, Dirty: []impl.Span{sp(0, 2), sp(47, 48)}})
}

// baseOwn has something else in each place, so that places taken for one another are found.
func baseOwn() impl.Own { return ownOf(noted("..abcdef..gh", "..hhdddh..hh")) }

func withOwn(f func(o *impl.Own)) impl.Own {
	o := baseOwn()
	f(&o)
	return o
}

func TestOwnOk(t *testing.T) {
	for _, n := range randomNotes(1000) {
		if o := ownOf(n); !impl.OwnOk(o) {
			t.Error("not accepted:", o)
		}
	}
	if !impl.OwnOk(impl.Own{Text: strings.Repeat(".", 48), Have: []impl.Span{}, Dirty: []impl.Span{}}) {
		t.Error("nothing at all, with empty lists")
	}
	for _, bad := range badOwns() {
		if impl.OwnOk(bad) {
			t.Errorf("accepted: %+v", bad)
		}
	}
}

// Each position, with everything that a cache may have there, valid or not, among positions of which nothing is known and of which all is.
func TestOwnOkOfPositions(t *testing.T) {
	for at := range 48 {
		for n := range 16 {
			o, rest := impl.Own{Text: strings.Repeat(".", 48)}, places{}
			if n&8 != 0 {
				o.Text, rest = textOf(48, 0), placesOf(sp(0, 48))
			}
			c, have, dirty := "."+"a", rest, rest
			c = c[n&1 : n&1+1]
			have[at], dirty[at] = n&2 != 0, n&4 != 0
			o.Text = o.Text[:at] + c + o.Text[at+1:]
			o.Have, o.Dirty = have.ranges(), dirty.ranges()
			if got, want := impl.OwnOk(o), have[at] || c == "." && !dirty[at]; got != want {
				t.Fatalf("%+v: %v", o, got)
			}
		}
	}
}

// checkOwn compares with the notes that come after, or with those before where these cannot be or are refused.
func checkOwn(t *testing.T, what string, old, next notes, refused bool, got impl.Own, ok bool) bool {
	t.Helper()
	want, wantOk := next.own()
	if !wantOk || refused {
		want, wantOk = ownOf(old), false
	}
	if !sameOwns(got, want) || ok != wantOk {
		t.Fatalf("%s of %v: %v %v, not %v %v", what, ownOf(old), got, ok, want, wantOk)
	}
	if !impl.OwnOk(got) {
		t.Fatalf("%s of %v: %v is not valid", what, ownOf(old), got)
	}
	return ok
}

func TestOwnAgainstNotes(t *testing.T) {
	r := rand.New(rand.NewSource(33))
	spans := allSpans()
	many := map[string]int{}
	for i, n := range randomNotes(200) {
		o, rounds := ownOf(n), 100
		if i < len(longNotes()) {
			rounds = 500
		}
		for range rounds {
			p := spans[r.Intn(len(spans))]
			if r.Intn(2) == 0 {
				p.Hi = min(p.Hi, p.Lo+1+r.Intn(3))
			}
			data := textOf(p.Hi-p.Lo, r.Intn(37))
			count := func(what string, ok bool) { many[fmt.Sprint(what, " ", ok)]++ }

			got, ok := impl.OwnFill(o, p, data)
			count("fill", checkOwn(t, fmt.Sprintf("fill %v %q", p, data), n, n.fill(p, data), false, got, ok))
			got, ok = impl.OwnWrite(o, p.Lo, data)
			count("write", checkOwn(t, fmt.Sprintf("write %d %q", p.Lo, data), n, n.write(p.Lo, data), false, got, ok))
			got, ok = impl.OwnClean(o, p)
			count("clean", checkOwn(t, fmt.Sprintf("clean %v", p), n, n.clean(p), false, got, ok))
			got, ok = impl.OwnDrop(o, p)
			modified := n.any(p, "d")
			count(fmt.Sprint("drop, modified ", modified), checkOwn(t, fmt.Sprintf("drop %v", p), n, n.drop(p), modified, got, ok))
			want, wantOk := n.read(p)
			text, ok := impl.OwnRead(o, p)
			if text != want || ok != wantOk {
				t.Fatalf("read %v of %v: %q %v, not %q %v", p, o, text, ok, want, wantOk)
			}
			count("read", ok)
			if list := impl.OwnPatches(o, p); !slices.Equal(list, n.patches(p)) {
				t.Fatalf("patches %v of %v: %v, not %v", p, o, list, n.patches(p))
			}
		}
	}
	for _, what := range []string{
		"fill true", "fill false", "write true", "write false", "clean true", "clean false",
		"drop, modified false true", "drop, modified false false", "drop, modified true false", "read true", "read false",
	} {
		if many[what] < 20 {
			t.Error("too seldom:", what, many[what])
		}
	}
}

// Every range, so that each border of what is kept inside is met from both sides.
func TestOwnOfAllRanges(t *testing.T) {
	n := noted(textOf(16, 2)+strings.Repeat(".", 8)+textOf(24, 5), strings.Repeat("hd", 4)+strings.Repeat("h", 8)+strings.Repeat(".", 8)+strings.Repeat("d", 8)+strings.Repeat("hhd", 5)+"h")
	o := ownOf(n)
	for _, p := range allSpans() {
		data := textOf(p.Hi-p.Lo, 11)
		got, ok := impl.OwnFill(o, p, data)
		checkOwn(t, fmt.Sprint("fill ", p), n, n.fill(p, data), false, got, ok)
		got, ok = impl.OwnWrite(o, p.Lo, data)
		checkOwn(t, fmt.Sprint("write ", p), n, n.write(p.Lo, data), false, got, ok)
		got, ok = impl.OwnClean(o, p)
		checkOwn(t, fmt.Sprint("clean ", p), n, n.clean(p), false, got, ok)
		got, ok = impl.OwnDrop(o, p)
		checkOwn(t, fmt.Sprint("drop ", p), n, n.drop(p), n.any(p, "d"), got, ok)
		want, wantOk := n.read(p)
		if text, ok := impl.OwnRead(o, p); text != want || ok != wantOk {
			t.Fatal("read", p, text, ok)
		}
		if list := impl.OwnPatches(o, p); !slices.Equal(list, n.patches(p)) {
			t.Fatal("patches", p, list)
		}
	}
}

func TestOwnFillEdges(t *testing.T) {
	long, wides := textOf(48, 1), strings.Repeat("hhh.", 12)
	combs, combText := strings.Repeat("h.", 12), strings.Repeat("a.", 12)
	for _, c := range []struct {
		name string
		n    notes
		p    impl.Span
		data string
		want notes
		ok   bool
	}{
		{"nothing is cached", noted("", ""), sp(2, 5), "xyz", noted("..xyz", "..hhh"), true},
		{"the first position", noted("", ""), sp(0, 1), "x", noted("x", "h"), true},
		{"the last position", noted("", ""), sp(47, 48), "x", noted(strings.Repeat(".", 47)+"x", strings.Repeat(".", 47)+"h"), true},
		{"all positions", noted("", ""), sp(0, 48), long, noted(long, strings.Repeat("h", 48)), true},
		{"it is cached", noted("abc", "hhh"), sp(0, 3), "xyz", noted("xyz", "hhh"), true},
		{"it is cached in part", noted("abc", "hhh"), sp(1, 5), "wxyz", noted("awxyz", "hhhhh"), true},
		{"beside what is cached", noted("abc", "hhh"), sp(3, 4), "x", noted("abcx", "hhhh"), true},
		{"apart from what is cached", noted("abc", "hhh"), sp(4, 5), "x", noted("abc.x", "hhh.h"), true},
		{"between two ranges", noted("a.c", "h.h"), sp(1, 2), "x", noted("axc", "hhh"), true},
		{"all is modified", noted("abc", "ddd"), sp(0, 3), "xyz", noted("abc", "ddd"), true},
		{"one position is modified, the first", noted("abc", "dhh"), sp(0, 3), "xyz", noted("ayz", "dhh"), true},
		{"one position is modified, in the middle", noted("abc", "hdh"), sp(0, 3), "xyz", noted("xbz", "hdh"), true},
		{"one position is modified, the last", noted("abc", "hhd"), sp(0, 3), "xyz", noted("xyc", "hhd"), true},
		{"one position is modified, just in front", noted("abc", "dhh"), sp(1, 3), "yz", noted("ayz", "dhh"), true},
		{"one position is modified, just behind", noted("abc", "hhd"), sp(0, 2), "xy", noted("xyc", "hhd"), true},
		{"modified by turns, cached, not cached", noted("ab.de", "dh.hd"), sp(0, 6), "uvwxyz", noted("avwxez", "dhhhdh"), true},
		{"a modified point", noted("a.c", "hdh"), sp(0, 3), "xyz", noted("x.z", "hdh"), true},
		{"points over bytes", noted("abc", "hdh"), sp(0, 3), "...", noted(".b.", "hdh"), true},
		{"points, where nothing is cached", noted("", ""), sp(0, 2), "..", noted("..", "hh"), true},
		{"a twelfth range", noted(combText[:22], combs[:22]), sp(40, 41), "x", noted(combText[:22]+strings.Repeat(".", 18)+"x", combs[:22]+strings.Repeat(".", 18)+"h"), true},
		{"a thirteenth range", noted(combText, combs), sp(40, 41), "x", noted(combText, combs), false},
		{"a thirteenth range, all of points", noted("", combs), sp(40, 41), ".", noted("", combs), false},
		{"a thirteenth range, just behind", noted(combText, combs), sp(24, 25), "x", noted(combText, combs), false},
		{"beside the twelfth range", noted(combText, combs), sp(23, 25), "xy", noted(combText[:23]+"xy", combs[:23]+"hh"), true},
		{"over twelve ranges", noted("", wides), sp(0, 48), long, noted(long, strings.Repeat("h", 48)), true},
		{"twelve modified ranges", noted("", strings.Repeat("dh", 12)), sp(0, 24), long[:24], noted(onlyAt(long[:24], strings.Repeat(".x", 12)), strings.Repeat("dh", 12)), true},
		{"data too short", noted("abc", "hhh"), sp(0, 3), "xy", noted("abc", "hhh"), false},
		{"data too long", noted("abc", "hhh"), sp(0, 3), "wxyz", noted("abc", "hhh"), false},
		{"no data", noted("abc", "hhh"), sp(0, 3), "", noted("abc", "hhh"), false},
		{"no data for one position", noted("abc", "hhh"), sp(3, 4), "", noted("abc", "hhh"), false},
		{"data that is not a file", noted("abc", "hhh"), sp(0, 3), "xYz", noted("abc", "hhh"), false},
		{"data that is not a file, where it is modified", noted("abc", "hdh"), sp(0, 3), "xYz", noted("abc", "hdh"), false},
		{"data too short, where it is modified", noted("abc", "hdd"), sp(0, 3), "x", noted("abc", "hdd"), false},
		{"data longer than a file", noted("abc", "hhh"), sp(0, 48), textOf(49, 0), noted("abc", "hhh"), false},
		{"an empty range, no data", noted("abc", "hhh"), sp(2, 2), "", noted("abc", "hhh"), false},
		{"past the last position", noted("abc", "hhh"), sp(47, 49), "xy", noted("abc", "hhh"), false},
		{"in front of the first position", noted("abc", "hhh"), sp(-1, 1), "xy", noted("abc", "hhh"), false},
	} {
		if got, ok := impl.OwnFill(ownOf(c.n), c.p, c.data); ok != c.ok || !sameOwns(got, ownOf(c.want)) {
			t.Errorf("%s: %v %v", c.name, got, ok)
		}
	}
}

// onlyAt is the bytes of s where the other text has no point, and points elsewhere.
func onlyAt(s, other string) string {
	out := []byte(s)
	for i := range out {
		if other[i] == '.' {
			out[i] = '.'
		}
	}
	return string(out)
}

func TestOwnWriteEdges(t *testing.T) {
	long, tail := textOf(48, 1), strings.Repeat(".", 46)
	combs, combText := strings.Repeat("d.", 12), strings.Repeat("a.", 12)
	cached, halves := strings.Repeat("h", 48), strings.Repeat("dh", 12)+strings.Repeat("h", 24)
	for _, c := range []struct {
		name string
		n    notes
		at   int
		data string
		want notes
		ok   bool
	}{
		{"not cached", noted("", ""), 2, "xyz", noted("..xyz", "..ddd"), true},
		{"cached", noted("abcd", "hhhh"), 1, "xy", noted("axyd", "hddh"), true},
		{"partly cached, the first half", noted("ab", "hh"), 1, "xyz", noted("axyz", "hddd"), true},
		{"partly cached, the second half", noted("..cd", "..hh"), 0, "xyz", noted("xyzd", "dddh"), true},
		{"partly cached, the middle", noted(".b", ".h"), 0, "xyz", noted("xyz", "ddd"), true},
		{"partly cached, the ends", noted("a.c", "h.h"), 0, "xyz", noted("xyz", "ddd"), true},
		{"modified", noted("abcd", "hddh"), 1, "xy", noted("axyd", "hddh"), true},
		{"partly modified", noted("abcd", "hddh"), 2, "xy", noted("abxy", "hddd"), true},
		{"beside what was modified", noted("ab", "dd"), 2, "x", noted("abx", "ddd"), true},
		{"apart from what was modified", noted("ab", "dd"), 3, "x", noted("ab.x", "dd.d"), true},
		{"between two that were modified", noted("a.c", "d.d"), 1, "x", noted("axc", "ddd"), true},
		{"the bytes that are there", noted("abc", "hhh"), 1, "b", noted("abc", "hdh"), true},
		{"a point over a byte", noted("abc", "hhh"), 1, ".", noted("a.c", "hdh"), true},
		{"a point, where nothing is cached", noted("", ""), 1, ".", noted("", ".d"), true},
		{"the first position", noted("", ""), 0, "x", noted("x", "d"), true},
		{"the last position", noted("", ""), 47, "x", noted(tail+".x", tail+".d"), true},
		{"ends at 48", noted("", ""), 46, "xy", noted(tail+"xy", tail+"dd"), true},
		{"ends at 49", noted("", ""), 47, "xy", noted("", ""), false},
		{"ends at 49, over what is cached", noted(long, cached), 47, "xy", noted(long, cached), false},
		{"at 48", noted("a", "d"), 48, "x", noted("a", "d"), false},
		{"all positions", noted("abc", "hdh"), 0, long, noted(long, strings.Repeat("d", 48)), true},
		{"all positions from 1 on", noted("abc", "hdh"), 1, long, noted("abc", "hdh"), false},
		{"49 bytes", noted("abc", "hdh"), 0, textOf(49, 1), noted("abc", "hdh"), false},
		{"a twelfth range", noted(combText[:22], combs[:22]), 40, "x", noted(combText[:22]+strings.Repeat(".", 18)+"x", combs[:22]+strings.Repeat(".", 18)+"d"), true},
		{"a thirteenth range", noted(combText, combs), 40, "x", noted(combText, combs), false},
		{"a thirteenth range of Have alone", noted("", strings.Repeat("h.", 12)), 40, "x", noted("", strings.Repeat("h.", 12)), false},
		{"a thirteenth range of Dirty alone", noted(long, halves), 40, "x", noted(long, halves), false},
		{"beside the twelfth range of Dirty", noted(long, halves), 23, "x", noted(long[:23]+"x"+long[24:], halves[:23]+"d"+halves[24:]), true},
		{"over twelve ranges", noted(combText, combs), 0, long[:23], noted(long[:23], strings.Repeat("d", 23)), true},
		{"no data", noted("abc", "hdh"), 1, "", noted("abc", "hdh"), false},
		{"no data at 48", noted("abc", "hdh"), 48, "", noted("abc", "hdh"), false},
		{"data that is not a file", noted("abc", "hdh"), 1, "xY", noted("abc", "hdh"), false},
		{"a negative place", noted("abc", "hdh"), -1, "xy", noted("abc", "hdh"), false},
		{"a sum past the greatest int", noted("abc", "hdh"), math.MaxInt, "xy", noted("abc", "hdh"), false},
	} {
		if got, ok := impl.OwnWrite(ownOf(c.n), c.at, c.data); ok != c.ok || !sameOwns(got, ownOf(c.want)) {
			t.Errorf("%s: %v %v", c.name, got, ok)
		}
	}
}

func TestOwnReadEdges(t *testing.T) {
	long := textOf(48, 1)
	for _, c := range []struct {
		name string
		n    notes
		p    impl.Span
		want string
		ok   bool
	}{
		{"cached", noted("..abc", "..hhh"), sp(2, 5), "abc", true},
		{"a part of it", noted("..abc", "..hhh"), sp(3, 4), "b", true},
		{"modified", noted("..abc", "..ddd"), sp(2, 5), "abc", true},
		{"both by turns", noted("abcd", "hdhd"), sp(0, 4), "abcd", true},
		{"points", noted("a..d", "hhdh"), sp(0, 4), "a..d", true},
		{"points alone", noted("", "hd"), sp(0, 2), "..", true},
		{"one position is not cached, in front", noted("..abc", "..hhh"), sp(1, 5), "", false},
		{"one position is not cached, behind", noted("..abc", "..hhh"), sp(2, 6), "", false},
		{"one position is not cached, in the middle", noted("a.c", "h.h"), sp(0, 3), "", false},
		{"one position is not cached, behind one that was modified", noted("ab", "dd"), sp(0, 3), "", false},
		{"none is cached", noted("..abc", "..hhh"), sp(0, 2), "", false},
		{"nothing is cached anywhere", noted("", ""), sp(0, 48), "", false},
		{"all positions", noted(long, strings.Repeat("h", 48)), sp(0, 48), long, true},
		{"the last position", noted(long, strings.Repeat("h", 48)), sp(47, 48), long[47:], true},
		{"past the last position", noted(long, strings.Repeat("h", 48)), sp(47, 49), "", false},
		{"an empty range", noted(long, strings.Repeat("h", 48)), sp(3, 3), "", false},
		{"in front of the first position", noted(long, strings.Repeat("h", 48)), sp(-1, 3), "", false},
	} {
		if got, ok := impl.OwnRead(ownOf(c.n), c.p); ok != c.ok || got != c.want {
			t.Errorf("%s: %q %v", c.name, got, ok)
		}
	}
}

func TestOwnPatchesEdges(t *testing.T) {
	two, long := noted(".abcd..efg", ".dddd..dhd"), textOf(48, 1)
	var each []impl.Patch
	for i := range 12 {
		each = append(each, put(4*i+1, long[4*i+1:4*i+4]))
	}
	for _, c := range []struct {
		name string
		n    notes
		p    impl.Span
		want []impl.Patch
	}{
		{"one range", two, sp(1, 5), []impl.Patch{put(1, "abcd")}},
		{"one range and what is around it", two, sp(0, 6), []impl.Patch{put(1, "abcd")}},
		{"it cuts on the left", two, sp(3, 6), []impl.Patch{put(3, "cd")}},
		{"it cuts on the right", two, sp(0, 3), []impl.Patch{put(1, "ab")}},
		{"it cuts on either side", two, sp(2, 4), []impl.Patch{put(2, "bc")}},
		{"one position", two, sp(4, 5), []impl.Patch{put(4, "d")}},
		{"several ranges", two, sp(0, 48), []impl.Patch{put(1, "abcd"), put(7, "e"), put(9, "g")}},
		{"several ranges, the first of them cut", two, sp(4, 10), []impl.Patch{put(4, "d"), put(7, "e"), put(9, "g")}},
		{"several ranges, the last of them cut", noted("ab.cd", "dd.dd"), sp(0, 4), []impl.Patch{put(0, "ab"), put(3, "c")}},
		{"several ranges, both ends cut", noted("abcde", "ddhdd"), sp(1, 4), []impl.Patch{put(1, "b"), put(3, "d")}},
		{"none, between two", two, sp(5, 7), nil},
		{"none, what is cached alone", two, sp(8, 9), nil},
		{"none, behind all", two, sp(10, 48), nil},
		{"none, since nothing was modified", noted("abc", "hhh"), sp(0, 48), nil},
		{"none, since nothing is cached", noted("", ""), sp(0, 48), nil},
		{"points that were written", noted("a.", "hdd"), sp(0, 48), []impl.Patch{put(1, "..")}},
		{"all positions", noted(long, strings.Repeat("d", 48)), sp(0, 48), []impl.Patch{put(0, long)}},
		{"the last position", noted(long, strings.Repeat("d", 48)), sp(47, 48), []impl.Patch{put(47, long[47:])}},
		{"twelve ranges", noted(long, strings.Repeat("hddd", 12)), sp(0, 48), each},
		{"past the last position", two, sp(0, 49), nil},
		{"an empty range", two, sp(2, 2), nil},
		{"a range that is turned round", two, sp(4, 2), nil},
		{"in front of the first position", two, sp(-1, 4), nil},
	} {
		if got := impl.OwnPatches(ownOf(c.n), c.p); !slices.Equal(got, c.want) {
			t.Errorf("%s: %v, not %v", c.name, got, c.want)
		}
	}
}

func TestOwnCleanAndDropEdges(t *testing.T) {
	long := textOf(48, 1)
	wideDirty, wideHave := strings.Repeat("dddh", 12), strings.Repeat("hhh.", 12)
	gaps := onlyAt(long, wideHave)
	for _, c := range []struct {
		name string
		f    func(o impl.Own, p impl.Span) (impl.Own, bool)
		n    notes
		p    impl.Span
		want notes
		ok   bool
	}{
		{"clean of a modified range", impl.OwnClean, noted("abcd", "hddh"), sp(1, 3), noted("abcd", "hhhh"), true},
		{"clean of a part, the first", impl.OwnClean, noted("abcd", "dddd"), sp(0, 2), noted("abcd", "hhdd"), true},
		{"clean of a part, the last", impl.OwnClean, noted("abcd", "dddd"), sp(3, 4), noted("abcd", "dddh"), true},
		{"clean of a part, in the middle", impl.OwnClean, noted("abcd", "dddd"), sp(1, 3), noted("abcd", "dhhd"), true},
		{"clean of several", impl.OwnClean, noted("abcde", "ddhdd"), sp(1, 4), noted("abcde", "dhhhd"), true},
		{"clean of all", impl.OwnClean, noted(long, strings.Repeat("d", 48)), sp(0, 48), noted(long, strings.Repeat("h", 48)), true},
		{"clean of more than is cached", impl.OwnClean, noted(".b", ".d"), sp(0, 48), noted(".b", ".h"), true},
		{"clean of what was not modified", impl.OwnClean, noted("abcd", "hddh"), sp(3, 4), noted("abcd", "hddh"), true},
		{"clean of what is not cached", impl.OwnClean, noted("abcd", "hddh"), sp(4, 9), noted("abcd", "hddh"), true},
		{"clean where nothing is cached", impl.OwnClean, noted("", ""), sp(0, 48), noted("", ""), true},
		{"clean of the last position", impl.OwnClean, noted(long, strings.Repeat("d", 48)), sp(47, 48), noted(long, strings.Repeat("d", 47)+"h"), true},
		{"clean to thirteen ranges", impl.OwnClean, noted(long, wideDirty), sp(1, 2), noted(long, wideDirty), false},
		{"clean to thirteen ranges, all of points", impl.OwnClean, noted("", wideDirty), sp(1, 2), noted("", wideDirty), false},
		{"clean of one end of twelve", impl.OwnClean, noted(long, wideDirty), sp(0, 1), noted(long, "hddh"+wideDirty[4:]), true},
		{"clean to twelve ranges", impl.OwnClean, noted(long, wideDirty[:44]+"hhhh"), sp(1, 2), noted(long, "dhdh"+wideDirty[4:44]+"hhhh"), true},
		{"clean of an empty range", impl.OwnClean, noted("abcd", "dddd"), sp(1, 1), noted("abcd", "dddd"), false},
		{"clean past the last position", impl.OwnClean, noted("abcd", "dddd"), sp(0, 49), noted("abcd", "dddd"), false},
		{"drop of what is cached", impl.OwnDrop, noted("abcd", "hhhh"), sp(1, 3), noted("a..d", "h..h"), true},
		{"drop of a part that is cached", impl.OwnDrop, noted("ab", "hh"), sp(1, 9), noted("a", "h"), true},
		{"drop of all", impl.OwnDrop, noted(long, strings.Repeat("h", 48)), sp(0, 48), noted("", ""), true},
		{"drop of what is not cached", impl.OwnDrop, noted("ab.d", "hd.d"), sp(2, 3), noted("ab.d", "hd.d"), true},
		{"drop where nothing is cached", impl.OwnDrop, noted("", ""), sp(0, 48), noted("", ""), true},
		{"drop of several", impl.OwnDrop, noted("ab.de", "hh.hh"), sp(1, 4), noted("a...e", "h...h"), true},
		{"drop of the last position", impl.OwnDrop, noted(long, strings.Repeat("h", 48)), sp(47, 48), noted(long[:47], strings.Repeat("h", 47)), true},
		{"drop of a position that was modified", impl.OwnDrop, noted("abcd", "hdhh"), sp(1, 2), noted("abcd", "hdhh"), false},
		{"drop with one that was modified, the first", impl.OwnDrop, noted("abcd", "dhhh"), sp(0, 4), noted("abcd", "dhhh"), false},
		{"drop with one that was modified, in the middle", impl.OwnDrop, noted("abcd", "hdhh"), sp(0, 4), noted("abcd", "hdhh"), false},
		{"drop with one that was modified, the last", impl.OwnDrop, noted("abcd", "hhhd"), sp(0, 4), noted("abcd", "hhhd"), false},
		{"drop with a modified point", impl.OwnDrop, noted("ab.d", "hhdh"), sp(0, 4), noted("ab.d", "hhdh"), false},
		{"drop of all that was modified", impl.OwnDrop, noted("abcd", "dddd"), sp(0, 4), noted("abcd", "dddd"), false},
		{"drop just in front of what was modified", impl.OwnDrop, noted("abcd", "hhdd"), sp(0, 2), noted("..cd", "..dd"), true},
		{"drop just behind what was modified", impl.OwnDrop, noted("abcd", "ddhh"), sp(2, 4), noted("ab", "dd"), true},
		{"drop between what was modified", impl.OwnDrop, noted("abcd", "dhhd"), sp(1, 3), noted("a..d", "d..d"), true},
		{"drop to thirteen ranges", impl.OwnDrop, noted(gaps, wideHave), sp(1, 2), noted(gaps, wideHave), false},
		{"drop to thirteen ranges, all of points", impl.OwnDrop, noted("", wideHave), sp(1, 2), noted("", wideHave), false},
		{"drop of one end of twelve", impl.OwnDrop, noted(gaps, wideHave), sp(0, 1), noted("."+gaps[1:], "."+wideHave[1:]), true},
		{"drop to twelve ranges", impl.OwnDrop, noted(gaps[:44], wideHave[:44]), sp(1, 2), noted(gaps[:1]+"."+gaps[2:44], "h.h."+wideHave[4:44]), true},
		{"drop of an empty range", impl.OwnDrop, noted("abcd", "hhhh"), sp(1, 1), noted("abcd", "hhhh"), false},
		{"drop past the last position", impl.OwnDrop, noted("abcd", "hhhh"), sp(0, 49), noted("abcd", "hhhh"), false},
	} {
		if got, ok := c.f(ownOf(c.n), c.p); ok != c.ok || !sameOwns(got, ownOf(c.want)) {
			t.Errorf("%s: %v %v", c.name, got, ok)
		}
	}
}

// checkNoOwn holds the functions against what the chapter states for a cache that is not valid.
func checkNoOwn(t *testing.T, bad impl.Own, p impl.Span, data string) {
	t.Helper()
	for name, f := range map[string]func() (impl.Own, bool){
		"fill":  func() (impl.Own, bool) { return impl.OwnFill(bad, p, data) },
		"write": func() (impl.Own, bool) { return impl.OwnWrite(bad, p.Lo, data) },
		"clean": func() (impl.Own, bool) { return impl.OwnClean(bad, p) },
		"drop":  func() (impl.Own, bool) { return impl.OwnDrop(bad, p) },
	} {
		if got, ok := f(); ok || !noOwn(got) {
			t.Fatalf("%s %v %q of %+v: %v %v", name, p, data, bad, got, ok)
		}
	}
	if got, ok := impl.OwnRead(bad, p); ok || got != "" {
		t.Fatalf("read %v of %+v: %q %v", p, bad, got, ok)
	}
	if got := impl.OwnPatches(bad, p); len(got) != 0 {
		t.Fatalf("patches %v of %+v: %v", p, bad, got)
	}
}

// Each function gives what the document states for a cache that is not valid, whatever the other arguments are.
func TestOwnOfInvalidCaches(t *testing.T) {
	for _, bad := range badOwns() {
		for _, p := range []impl.Span{sp(0, 1), sp(1, 3), sp(0, 48), sp(20, 30), sp(47, 48)} {
			checkNoOwn(t, bad, p, textOf(p.Hi-p.Lo, 0))
		}
		for _, p := range badSpans() {
			checkNoOwn(t, bad, p, "ab")
		}
		checkNoOwn(t, bad, sp(0, 1), "A")
		checkNoOwn(t, bad, sp(0, 1), "")
	}
}

func TestOwnOfInvalidRanges(t *testing.T) {
	for _, n := range randomNotes(40) {
		o := ownOf(n)
		for _, p := range badSpans() {
			for _, data := range []string{"", "a", "ab", textOf(48, 0), textOf(49, 0)} {
				if got, ok := impl.OwnFill(o, p, data); ok || !sameOwns(got, o) {
					t.Fatal("fill", o, p, data, got, ok)
				}
			}
			if got, ok := impl.OwnClean(o, p); ok || !sameOwns(got, o) {
				t.Fatal("clean", o, p, got, ok)
			}
			if got, ok := impl.OwnDrop(o, p); ok || !sameOwns(got, o) {
				t.Fatal("drop", o, p, got, ok)
			}
			if got, ok := impl.OwnRead(o, p); ok || got != "" {
				t.Fatal("read", o, p, got, ok)
			}
			if got := impl.OwnPatches(o, p); len(got) != 0 {
				t.Fatal("patches", o, p, got)
			}
		}
	}
}

func TestOwnOfInvalidData(t *testing.T) {
	for _, n := range randomNotes(40) {
		o := ownOf(n)
		for _, data := range append(badTexts(), "") {
			for _, p := range []impl.Span{sp(0, 1), sp(0, 48), sp(3, 7), sp(0, max(1, min(48, len(data)))), sp(48-max(1, min(48, len(data))), 48)} {
				if got, ok := impl.OwnFill(o, p, data); ok || !sameOwns(got, o) {
					t.Fatalf("fill %v %q of %v: %v %v", p, data, o, got, ok)
				}
			}
			for _, at := range append(farNumbers(), 0, 1, 47, 48) {
				if got, ok := impl.OwnWrite(o, at, data); ok || !sameOwns(got, o) {
					t.Fatalf("write %d %q of %v: %v %v", at, data, o, got, ok)
				}
			}
		}
		for _, at := range farNumbers() {
			if got, ok := impl.OwnWrite(o, at, "x"); ok || !sameOwns(got, o) {
				t.Fatalf("write at %d of %v: %v %v", at, o, got, ok)
			}
		}
	}
}

// A fill is of exactly as many bytes as the range has.
func TestOwnFillLengths(t *testing.T) {
	o := ownOf(noted("abcd", "hdhd"))
	for _, p := range []impl.Span{sp(0, 1), sp(0, 4), sp(2, 10), sp(0, 47), sp(0, 48), sp(47, 48)} {
		for long := range 52 {
			got, ok := impl.OwnFill(o, p, textOf(long, 0))
			if ok != (long == p.Hi-p.Lo) || !ok && !sameOwns(got, o) {
				t.Fatal(p, long, got, ok)
			}
		}
	}
}

// Every place and every length of what is written, up to just past the last position.
func TestOwnWritePlaces(t *testing.T) {
	n := noted("abcdef", "hdd.hh")
	n.text[3] = '.'
	o := ownOf(n)
	for at := -2; at <= 50; at++ {
		for long := range 51 {
			data := textOf(long, 7)
			got, ok := impl.OwnWrite(o, at, data)
			if at < 0 || long == 0 || at+long > 48 {
				if ok || !sameOwns(got, o) {
					t.Fatalf("%q at %d: %v %v", data, at, got, ok)
				}
				continue
			}
			checkOwn(t, fmt.Sprintf("write %d %q", at, data), n, n.write(at, data), false, got, ok)
		}
	}
}

// What a client wrote is read again, also after fills of the same positions, after a clean, and after drops of all that was not modified.
func TestOwnReadsWhatWasWritten(t *testing.T) {
	for _, p := range allSpans() {
		data, other := textOf(p.Hi-p.Lo, 3), textOf(48, 20)
		read := func(o impl.Own, when string) {
			t.Helper()
			if got, ok := impl.OwnRead(o, p); !ok || got != data {
				t.Fatal(p, when, got, ok)
			}
		}
		for _, start := range []notes{noted("", ""), noted(other, strings.Repeat("h", 48)), noted(other, strings.Repeat("d", 48)), noted("abcdef", "hdhdhd")} {
			o, ok := impl.OwnWrite(ownOf(start), p.Lo, data)
			if !ok {
				t.Fatal(p, "write", o)
			}
			read(o, "at once")
			o, ok = impl.OwnFill(o, sp(0, 48), other)
			if !ok {
				t.Fatal(p, "fill", o)
			}
			read(o, "after a fill of all")
			for i := range 48 {
				if next, ok := impl.OwnDrop(o, sp(i, i+1)); ok == (start.has[i] == 'd' || p.Lo <= i && i < p.Hi) || !ok && !sameOwns(next, o) {
					t.Fatal(p, "drop of", i, ok, next)
				}
			}
			if next, ok := impl.OwnDrop(o, sp(0, 48)); ok || !sameOwns(next, o) {
				t.Fatal(p, "drop of all", ok, next)
			}
			if o, ok = impl.OwnClean(o, p); ok {
				read(o, "after a clean")
			}
		}
	}
}

// A client alone with its file, over many steps: whatever it keeps and discards, the file with the
// modifications that it still has is what it wrote, and it reads nothing else.
func TestOwnLosesNoModification(t *testing.T) {
	r := rand.New(rand.NewSource(35))
	spans := allSpans()
	many := map[string]int{}
	for range 40 {
		wrote := []byte(strings.Repeat(".", 48))
		file, o := string(wrote), ownOf(noted("", ""))
		for range 200 {
			p := spans[r.Intn(len(spans))]
			p.Hi = min(p.Hi, p.Lo+1+r.Intn(9))
			var ok bool
			what := []string{"write", "fill", "write back", "drop", "read"}[r.Intn(5)]
			switch what {
			case "write":
				data := textOf(p.Hi-p.Lo, r.Intn(37))
				if o, ok = impl.OwnWrite(o, p.Lo, data); ok {
					copy(wrote[p.Lo:], data)
				}
			case "fill":
				o, ok = impl.OwnFill(o, p, impl.TextRead(file, p))
			case "write back":
				list := impl.OwnPatches(o, p)
				if o, ok = impl.OwnClean(o, p); ok {
					file, _ = impl.TextAll(file, list)
				}
			case "drop":
				o, ok = impl.OwnDrop(o, p)
			case "read":
				var got string
				if got, ok = impl.OwnRead(o, p); ok && got != string(wrote[p.Lo:p.Hi]) {
					t.Fatalf("%q read at %v, not %q", got, p, wrote[p.Lo:p.Hi])
				}
			}
			many[fmt.Sprint(what, " ", ok)]++
			all, fine := impl.TextAll(file, impl.OwnPatches(o, sp(0, 48)))
			if !fine || all != string(wrote) || !impl.OwnOk(o) {
				t.Fatalf("%s %v: %q with %v is %q, not %q", what, p, file, o, all, wrote)
			}
		}
	}
	for _, what := range []string{"write true", "fill true", "write back true", "drop true", "drop false", "read true", "read false"} {
		if many[what] < 100 {
			t.Error("hardly tested:", what, many[what])
		}
	}
}

func TestOwnSame(t *testing.T) {
	for _, c := range []struct {
		name string
		b    impl.Own
		want bool
	}{
		{"itself", baseOwn(), true},
		{"the same in memory of its own", cloneOwn(baseOwn()), true},
		{"another byte", withOwn(func(o *impl.Own) { o.Text = o.Text[:2] + "x" + o.Text[3:] }), false},
		{"another byte at the end", withOwn(func(o *impl.Own) { o.Text = o.Text[:47] + "x" }), false},
		{"a byte less", withOwn(func(o *impl.Own) { o.Text = o.Text[:47] }), false},
		{"a byte more", withOwn(func(o *impl.Own) { o.Text += "." }), false},
		{"no text", withOwn(func(o *impl.Own) { o.Text = "" }), false},
		{"another Lo of Have", withOwn(func(o *impl.Own) { o.Have[0].Lo = 1 }), false},
		{"another Hi of Have", withOwn(func(o *impl.Own) { o.Have[1].Hi = 13 }), false},
		{"a range of Have less", withOwn(func(o *impl.Own) { o.Have = o.Have[:1] }), false},
		{"a range of Have more", withOwn(func(o *impl.Own) { o.Have = append(o.Have, sp(20, 21)) }), false},
		{"no Have", withOwn(func(o *impl.Own) { o.Have = nil }), false},
		{"ranges of Have in another order", withOwn(func(o *impl.Own) { slices.Reverse(o.Have) }), false},
		{"the positions of Have in other ranges", withOwn(func(o *impl.Own) { o.Have = []impl.Span{sp(2, 4), sp(4, 8), sp(10, 12)} }), false},
		{"another Lo of Dirty", withOwn(func(o *impl.Own) { o.Dirty[0].Lo = 5 }), false},
		{"another Hi of Dirty", withOwn(func(o *impl.Own) { o.Dirty[0].Hi = 6 }), false},
		{"a range of Dirty more", withOwn(func(o *impl.Own) { o.Dirty = append(o.Dirty, sp(10, 11)) }), false},
		{"no Dirty", withOwn(func(o *impl.Own) { o.Dirty = nil }), false},
		{"Have and Dirty in each other's place", withOwn(func(o *impl.Own) { o.Have, o.Dirty = o.Dirty, o.Have }), false},
		{"nothing", impl.Own{}, false},
	} {
		if got := impl.OwnSame(baseOwn(), c.b); got != c.want {
			t.Errorf("%s: %v", c.name, got)
		}
		if got := impl.OwnSame(c.b, baseOwn()); got != c.want {
			t.Errorf("%s, the other way round: %v", c.name, got)
		}
	}
	if !impl.OwnSame(impl.Own{}, impl.Own{Have: []impl.Span{}, Dirty: make([]impl.Span, 0, 4)}) {
		t.Error("nothing, and nothing")
	}
}

func TestOwnSameOfAnyCaches(t *testing.T) {
	owns := badOwns()
	for _, n := range randomNotes(60) {
		owns = append(owns, ownOf(n))
	}
	for i, a := range owns {
		if !impl.OwnSame(a, cloneOwn(a)) {
			t.Error("not itself:", a)
		}
		for _, b := range owns[max(0, i-40):i] {
			if got := impl.OwnSame(a, b); got != sameOwns(a, b) {
				t.Error(a, b, got)
			}
		}
	}
}

// Caches that were made in different ways but hold the same are the same.
func TestOwnSameOfDifferentWays(t *testing.T) {
	empty := ownOf(noted("", ""))
	first, _ := impl.OwnWrite(empty, 2, "abcd")
	first, _ = impl.OwnClean(first, sp(0, 48))
	second, _ := impl.OwnFill(empty, sp(4, 8), "cdxy")
	second, _ = impl.OwnFill(second, sp(2, 4), "ab")
	second, _ = impl.OwnDrop(second, sp(6, 48))
	if !impl.OwnSame(first, second) || !sameOwns(first, ownOf(noted("..abcd", "..hhhh"))) {
		t.Errorf("%v %v", first, second)
	}
}

// ownFunc is one of the functions that give a cache.
type ownFunc struct {
	name string
	f    func(o impl.Own) impl.Own
}

func ownFuncs() []ownFunc {
	var out []ownFunc
	for _, p := range []impl.Span{sp(0, 48), sp(0, 1), sp(1, 2), sp(3, 9), sp(40, 41), sp(47, 48), sp(3, 3), sp(47, 49)} {
		for _, data := range []string{textOf(p.Hi-p.Lo, 0), "A"} {
			out = append(out,
				ownFunc{fmt.Sprintf("fill %v %q", p, data), func(o impl.Own) impl.Own { o, _ = impl.OwnFill(o, p, data); return o }},
				ownFunc{fmt.Sprintf("write %d %q", p.Lo, data), func(o impl.Own) impl.Own { o, _ = impl.OwnWrite(o, p.Lo, data); return o }})
		}
		out = append(out,
			ownFunc{fmt.Sprint("clean ", p), func(o impl.Own) impl.Own { o, _ = impl.OwnClean(o, p); return o }},
			ownFunc{fmt.Sprint("drop ", p), func(o impl.Own) impl.Own { o, _ = impl.OwnDrop(o, p); return o }})
	}
	return out
}

// roomyOwn is the cache with marks in the capacity behind each length, and a function that says whether it is still so.
func roomyOwn(o impl.Own) (impl.Own, func() bool) {
	mark := sp(7, -7)
	full := impl.Own{Text: o.Text, Have: append(slices.Clone(o.Have), mark, mark), Dirty: append(slices.Clone(o.Dirty), mark, mark)}
	keep := cloneOwn(full)
	return impl.Own{Text: o.Text, Have: full.Have[:len(o.Have)], Dirty: full.Dirty[:len(o.Dirty)]}, func() bool { return sameOwns(full, keep) }
}

// spoilOwn writes into all memory of a cache, with its unused capacity, and says whether its two lists are apart.
func spoilOwn(o impl.Own) bool {
	lists := [][]impl.Span{o.Have[:cap(o.Have)], o.Dirty[:cap(o.Dirty)]}
	for i, list := range lists {
		for j := range list {
			list[j] = sp(-9, i)
		}
	}
	return !slices.ContainsFunc(lists[0], func(v impl.Span) bool { return v != sp(-9, 0) })
}

// Arguments stay as they are, beyond their length too, and a result is new memory, with its unused capacity, also where it is the cache that was given.
func TestOwnMemory(t *testing.T) {
	for _, n := range randomNotes(60) {
		for _, x := range ownFuncs() {
			o, same := roomyOwn(ownOf(n))
			first, second := x.f(o), x.f(o)
			keep := cloneOwn(second)
			if !spoilOwn(first) {
				t.Fatal(x.name, "has lists that share memory", first)
			}
			if !same() {
				t.Fatal(x.name, "changes its argument", o)
			}
			if !sameOwns(second, keep) {
				t.Fatal(x.name, "has memory of another result", second)
			}
		}
	}
}

func TestOwnReadOnly(t *testing.T) {
	for _, n := range randomNotes(60) {
		o, same := roomyOwn(ownOf(n))
		impl.OwnOk(o)
		impl.OwnSame(o, baseOwn())
		impl.OwnRead(o, sp(0, 48))
		first, second := impl.OwnPatches(o, sp(0, 48)), impl.OwnPatches(o, sp(0, 48))
		keep := slices.Clone(second)
		for i := range first[:cap(first)] {
			first[:cap(first)][i] = put(-9, "spoiled")
		}
		if !same() || !slices.Equal(second, keep) || !slices.Equal(impl.OwnPatches(o, sp(0, 48)), keep) {
			t.Fatal(o, second)
		}
	}
}
