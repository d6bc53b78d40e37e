package tests

import (
	"math"
	"math/rand"
	"slices"
	"testing"

	"loop.example/pannage/impl"
)

// Promise 1: a range list is determined by its positions.

// places is a set of positions, kept in the plainest way, to hold the results against.
type places [impl.SpanMost]bool

func sp(lo, hi int) impl.Span { return impl.Span{Lo: lo, Hi: hi} }

func placesOf(list ...impl.Span) places {
	var p places
	for _, s := range list {
		for i := s.Lo; i < s.Hi; i++ {
			p[i] = true
		}
	}
	return p
}

// ranges gives all maximal ranges, however many.
func (p places) ranges() []impl.Span {
	var out []impl.Span
	for i, in := range p {
		switch {
		case !in:
		case i > 0 && p[i-1]:
			out[len(out)-1].Hi = i + 1
		default:
			out = append(out, sp(i, i+1))
		}
	}
	return out
}

// list is empty where the document has no list for the positions.
func (p places) list() []impl.Span {
	if out := p.ranges(); len(out) <= impl.SpansMost {
		return out
	}
	return nil
}

func (p places) each(q places, f func(a, b bool) bool) places {
	for i := range p {
		p[i] = f(p[i], q[i])
	}
	return p
}

func (p places) many() int {
	n := 0
	for _, in := range p {
		if in {
			n++
		}
	}
	return n
}

func add(a, b bool) bool  { return a || b }
func cut(a, b bool) bool  { return a && !b }
func meet(a, b bool) bool { return a && b }

func allSpans() []impl.Span {
	var out []impl.Span
	for lo := 0; lo < impl.SpanMost; lo++ {
		for hi := lo + 1; hi <= impl.SpanMost; hi++ {
			out = append(out, sp(lo, hi))
		}
	}
	return out
}

// comb is n ranges of one position, every second one.
func comb(n int) []impl.Span {
	var out []impl.Span
	for i := range n {
		out = append(out, sp(2*i, 2*i+1))
	}
	return out
}

// wide is n ranges of three positions with one position between them.
func wide(n int) []impl.Span {
	var out []impl.Span
	for i := range n {
		out = append(out, sp(4*i, 4*i+3))
	}
	return out
}

func badSpans() []impl.Span {
	return []impl.Span{
		{}, sp(3, 3), sp(48, 48), sp(4, 3), sp(48, 0), sp(-1, 0), sp(-1, 4), sp(-4, -2),
		sp(0, 49), sp(47, 49), sp(48, 49), sp(49, 50), sp(0, math.MaxInt), sp(math.MinInt, 4),
		sp(math.MinInt, math.MaxInt), sp(math.MaxInt, math.MinInt), sp(math.MaxInt, math.MaxInt), sp(0, 64), sp(64, 65),
	}
}

func badLists() [][]impl.Span {
	out := [][]impl.Span{
		comb(13),
		comb(24),
		{sp(0, 2), sp(2, 4)},
		{sp(0, 3), sp(2, 4)},
		{sp(0, 8), sp(2, 4)},
		{sp(0, 2), sp(0, 2)},
		{sp(6, 8), sp(0, 2)},
		{sp(0, 2), sp(6, 8), sp(3, 4)},
		{sp(0, 2), sp(4, 4), sp(6, 8)},
		{sp(0, 2), sp(6, 5)},
		{sp(-1, 2)},
		{sp(40, 49)},
		{sp(0, 2), sp(47, 49)},
	}
	for _, s := range badSpans() {
		out = append(out, []impl.Span{s})
	}
	return out
}

func TestSpanOk(t *testing.T) {
	for _, s := range allSpans() {
		if !impl.SpanOk(s) {
			t.Error("not accepted:", s)
		}
	}
	for _, s := range badSpans() {
		if impl.SpanOk(s) {
			t.Error("accepted:", s)
		}
	}
	if !impl.SpanOk(sp(47, 48)) || !impl.SpanOk(sp(0, 48)) || impl.SpanOk(sp(47, 49)) {
		t.Error("a range may end at 48 and not at 49")
	}
}

func TestSpanMeet(t *testing.T) {
	spans := allSpans()
	for _, a := range spans {
		for _, b := range spans {
			var want impl.Span
			lo, hi := max(a.Lo, b.Lo), min(a.Hi, b.Hi)
			if lo < hi {
				want = sp(lo, hi)
			}
			got, ok := impl.SpanMeet(a, b)
			if got != want || ok != (lo < hi) {
				t.Fatal(a, b, got, ok)
			}
		}
	}
}

func TestSpanMeetOfInvalid(t *testing.T) {
	for _, bad := range badSpans() {
		for _, other := range append(badSpans(), allSpans()...) {
			if got, ok := impl.SpanMeet(bad, other); ok || got != (impl.Span{}) {
				t.Fatal(bad, other, got, ok)
			}
			if got, ok := impl.SpanMeet(other, bad); ok || got != (impl.Span{}) {
				t.Fatal(other, bad, got, ok)
			}
		}
	}
}

func TestSpansOk(t *testing.T) {
	good := [][]impl.Span{
		nil, {}, {sp(0, 1)}, {sp(0, 48)}, {sp(47, 48)}, {sp(0, 2), sp(3, 4)}, {sp(0, 2), sp(47, 48)},
		comb(12), wide(12), {sp(1, 2), sp(3, 4), sp(5, 48)},
	}
	for _, list := range good {
		if !impl.SpansOk(list) {
			t.Error("not accepted:", list)
		}
	}
	for _, list := range badLists() {
		if impl.SpansOk(list) {
			t.Error("accepted:", list)
		}
	}
}

// Each pair of ranges makes a list exactly if there is a gap between them.
func TestSpansOkOfTwo(t *testing.T) {
	spans := allSpans()
	for _, a := range spans {
		for _, b := range spans {
			if got := impl.SpansOk([]impl.Span{a, b}); got != (a.Hi < b.Lo) {
				t.Fatal(a, b, got)
			}
		}
	}
}

type listFunc func([]impl.Span, impl.Span) []impl.Span

func TestSpansEdges(t *testing.T) {
	near := append(comb(10), sp(20, 21), sp(46, 48))
	tests := []struct {
		name string
		f    listFunc
		list []impl.Span
		s    impl.Span
		want []impl.Span
	}{
		{"the document's example", impl.SpansAdd, []impl.Span{sp(0, 2), sp(6, 8)}, sp(2, 4), []impl.Span{sp(0, 4), sp(6, 8)}},
		{"add to nil", impl.SpansAdd, nil, sp(3, 5), []impl.Span{sp(3, 5)}},
		{"add to empty", impl.SpansAdd, []impl.Span{}, sp(0, 48), []impl.Span{sp(0, 48)}},
		{"add touches on the left", impl.SpansAdd, []impl.Span{sp(4, 6)}, sp(2, 4), []impl.Span{sp(2, 6)}},
		{"add touches on the right", impl.SpansAdd, []impl.Span{sp(4, 6)}, sp(6, 7), []impl.Span{sp(4, 7)}},
		{"add closes a gap", impl.SpansAdd, []impl.Span{sp(0, 2), sp(3, 5)}, sp(2, 3), []impl.Span{sp(0, 5)}},
		{"add leaves a gap of one", impl.SpansAdd, []impl.Span{sp(0, 2)}, sp(3, 5), []impl.Span{sp(0, 2), sp(3, 5)}},
		{"add in the middle", impl.SpansAdd, []impl.Span{sp(0, 9)}, sp(3, 5), []impl.Span{sp(0, 9)}},
		{"add around all", impl.SpansAdd, wide(12), sp(0, 48), []impl.Span{sp(0, 48)}},
		{"add before", impl.SpansAdd, []impl.Span{sp(5, 6)}, sp(0, 1), []impl.Span{sp(0, 1), sp(5, 6)}},
		{"add up to 48", impl.SpansAdd, []impl.Span{sp(0, 1)}, sp(47, 48), []impl.Span{sp(0, 1), sp(47, 48)}},
		{"add up to 49", impl.SpansAdd, []impl.Span{sp(0, 1)}, sp(47, 49), nil},
		{"add empty", impl.SpansAdd, []impl.Span{sp(0, 1)}, sp(3, 3), nil},
		{"add a twelfth", impl.SpansAdd, comb(11), sp(40, 41), append(comb(11), sp(40, 41))},
		{"add a thirteenth", impl.SpansAdd, comb(12), sp(40, 41), nil},
		{"add to twelve, touching", impl.SpansAdd, near, sp(45, 46), append(comb(10), sp(20, 21), sp(45, 48))},
		{"cut from nil", impl.SpansCut, nil, sp(0, 48), nil},
		{"cut the middle", impl.SpansCut, []impl.Span{sp(0, 9)}, sp(3, 5), []impl.Span{sp(0, 3), sp(5, 9)}},
		{"cut one position", impl.SpansCut, []impl.Span{sp(0, 3)}, sp(1, 2), []impl.Span{sp(0, 1), sp(2, 3)}},
		{"cut what touches", impl.SpansCut, []impl.Span{sp(4, 6)}, sp(2, 4), []impl.Span{sp(4, 6)}},
		{"cut all", impl.SpansCut, wide(12), sp(0, 48), nil},
		{"cut up to 48", impl.SpansCut, []impl.Span{sp(0, 48)}, sp(1, 48), []impl.Span{sp(0, 1)}},
		{"cut up to 49", impl.SpansCut, []impl.Span{sp(0, 48)}, sp(1, 49), nil},
		{"cut empty", impl.SpansCut, []impl.Span{sp(0, 9)}, sp(3, 3), nil},
		{"cut to twelve", impl.SpansCut, wide(11), sp(1, 2), append([]impl.Span{sp(0, 1), sp(2, 3)}, wide(11)[1:]...)},
		{"cut to thirteen", impl.SpansCut, wide(12), sp(1, 2), nil},
		{"meet with nil", impl.SpansMeet, nil, sp(0, 48), nil},
		{"meet in the middle", impl.SpansMeet, []impl.Span{sp(0, 9)}, sp(3, 5), []impl.Span{sp(3, 5)}},
		{"meet what touches", impl.SpansMeet, []impl.Span{sp(4, 6)}, sp(2, 4), nil},
		{"meet of several", impl.SpansMeet, []impl.Span{sp(0, 4), sp(6, 8), sp(10, 20)}, sp(3, 11), []impl.Span{sp(3, 4), sp(6, 8), sp(10, 11)}},
		{"meet of twelve", impl.SpansMeet, wide(12), sp(0, 48), wide(12)},
		{"meet up to 49", impl.SpansMeet, []impl.Span{sp(0, 48)}, sp(0, 49), nil},
		{"meet empty", impl.SpansMeet, []impl.Span{sp(0, 9)}, sp(3, 3), nil},
	}
	for _, c := range tests {
		if got := c.f(c.list, c.s); !slices.Equal(got, c.want) {
			t.Errorf("%s: %v, not %v", c.name, got, c.want)
		}
	}
}

func checkAgainstPlaces(t *testing.T, list []impl.Span, s impl.Span) {
	t.Helper()
	p, q := placesOf(list...), placesOf(s)
	for name, x := range map[string]struct{ got, want []impl.Span }{
		"add":  {impl.SpansAdd(list, s), p.each(q, add).list()},
		"cut":  {impl.SpansCut(list, s), p.each(q, cut).list()},
		"meet": {impl.SpansMeet(list, s), p.each(q, meet).list()},
	} {
		if !slices.Equal(x.got, x.want) {
			t.Fatalf("%s of %v and %v: %v, not %v", name, list, s, x.got, x.want)
		}
		if !impl.SpansOk(x.got) {
			t.Fatalf("%s of %v and %v: %v is not valid", name, list, s, x.got)
		}
	}
	if got, want := impl.SpansHave(list, s), q.each(p, cut).many() == 0; got != want {
		t.Fatalf("have of %v and %v: %v", list, s, got)
	}
}

// randomLists are valid lists with few and with many ranges, the same ones at each run.
func randomLists() [][]impl.Span {
	r := rand.New(rand.NewSource(1))
	out := [][]impl.Span{nil, {}, comb(12), wide(12), {sp(0, 48)}}
	for len(out) < 200 {
		var p places
		in, turn := false, 1+r.Intn(12)
		for i := range p {
			if r.Intn(turn) == 0 {
				in = !in
			}
			p[i] = in
		}
		if list := p.ranges(); len(list) <= impl.SpansMost {
			out = append(out, list)
		}
	}
	return out
}

func TestSpansAgainstPlaces(t *testing.T) {
	for _, list := range randomLists() {
		if !impl.SpansOk(list) {
			t.Fatal("not accepted:", list)
		}
		if got := impl.SpansMany(list); got != placesOf(list...).many() {
			t.Fatal(list, got)
		}
		for _, s := range allSpans() {
			checkAgainstPlaces(t, list, s)
		}
	}
}

// The same positions yield the same list, in whatever order and pieces they are added.
func TestSpansOrderDoesNotMatter(t *testing.T) {
	r := rand.New(rand.NewSource(2))
	for _, want := range randomLists() {
		var pieces []impl.Span
		for _, s := range want {
			pieces = append(pieces, s)
			mid := s.Lo + r.Intn(s.Hi-s.Lo)
			if mid > s.Lo {
				pieces = append(pieces, sp(s.Lo, mid), sp(mid, s.Hi))
			}
		}
		r.Shuffle(len(pieces), func(i, j int) { pieces[i], pieces[j] = pieces[j], pieces[i] })
		var got []impl.Span
		for _, s := range pieces {
			got = impl.SpansAdd(got, s)
		}
		if !slices.Equal(got, want) {
			t.Fatal(pieces, got, want)
		}
	}
}

func TestSpansHave(t *testing.T) {
	list := []impl.Span{sp(0, 3), sp(5, 9), sp(47, 48)}
	for _, s := range []impl.Span{sp(0, 3), sp(1, 2), sp(5, 9), sp(8, 9), sp(47, 48)} {
		if !impl.SpansHave(list, s) {
			t.Error("not there:", s)
		}
	}
	for _, s := range []impl.Span{sp(0, 4), sp(3, 5), sp(4, 6), sp(0, 9), sp(46, 48), sp(9, 10), sp(3, 3), {}, sp(47, 49)} {
		if impl.SpansHave(list, s) {
			t.Error("there:", s)
		}
	}
	if impl.SpansHave(nil, sp(0, 1)) || impl.SpansHave([]impl.Span{}, sp(0, 1)) {
		t.Error("an empty list has no position")
	}
}

func TestSpansMany(t *testing.T) {
	tests := []struct {
		list []impl.Span
		want int
	}{
		{nil, 0}, {[]impl.Span{}, 0}, {[]impl.Span{sp(0, 1)}, 1}, {[]impl.Span{sp(47, 48)}, 1},
		{[]impl.Span{sp(0, 48)}, 48}, {comb(12), 12}, {wide(12), 36}, {[]impl.Span{sp(0, 2), sp(3, 8)}, 7},
	}
	for _, c := range tests {
		if got := impl.SpansMany(c.list); got != c.want {
			t.Error(c.list, got)
		}
	}
}

func checkNothing(t *testing.T, list []impl.Span, s impl.Span) {
	t.Helper()
	for name, f := range map[string]listFunc{"add": impl.SpansAdd, "cut": impl.SpansCut, "meet": impl.SpansMeet} {
		if got := f(list, s); len(got) != 0 {
			t.Errorf("%s of %v and %v: %v", name, list, s, got)
		}
	}
	if impl.SpansHave(list, s) {
		t.Errorf("have of %v and %v", list, s)
	}
}

func TestSpansOfInvalid(t *testing.T) {
	for _, s := range badSpans() {
		for _, list := range [][]impl.Span{nil, {}, {sp(0, 48)}, {sp(0, 4)}, {sp(2, 4), sp(6, 8)}, comb(12)} {
			checkNothing(t, list, s)
		}
	}
	for _, list := range badLists() {
		for _, s := range append(badSpans(), sp(0, 1), sp(0, 2), sp(2, 4), sp(40, 48), sp(0, 48)) {
			checkNothing(t, list, s)
		}
		if got := impl.SpansMany(list); got != 0 {
			t.Error(list, got)
		}
	}
}

// Arguments stay as they are, beyond their length too, and a result is new memory, with its unused capacity.
func TestSpansMemory(t *testing.T) {
	mark := sp(7, -7)
	for name, f := range map[string]listFunc{"add": impl.SpansAdd, "cut": impl.SpansCut, "meet": impl.SpansMeet} {
		for _, s := range []impl.Span{sp(0, 48), sp(0, 20), sp(1, 2), sp(30, 31), sp(7, 8), sp(9, 10), sp(3, 3)} {
			full := append(wide(5), mark, mark, mark)
			want := slices.Clone(full)
			first, second := f(full[:5], s), f(full[:5], s)
			keep := slices.Clone(second)
			for i := range first[:cap(first)] {
				first[:cap(first)][i] = sp(-9, -9)
			}
			if !slices.Equal(full, want) {
				t.Errorf("%s of %v: the argument became %v", name, s, full)
			}
			if !slices.Equal(second, keep) {
				t.Errorf("%s of %v: a second result became %v", name, s, second)
			}
		}
	}
}

func TestSpansReadOnly(t *testing.T) {
	full := append(wide(5), sp(40, 41))
	want := slices.Clone(full)
	impl.SpansOk(full[:5])
	impl.SpansHave(full[:5], sp(0, 2))
	impl.SpansMany(full[:5])
	if !slices.Equal(full, want) {
		t.Error(full)
	}
}
