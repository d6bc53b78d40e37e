package impl

import (
	"iter"
	"math/bits"
)

// Span is the places from one on, up to another one that is not in it.
type Span struct {
	Lo int
	Hi int
}

// Bounds of places, and how many parts there may be.
const (
	SpanMost  = 48
	SpansMost = 12
)

// spots is a set of positions, one bit each: all SpanMost of them fit into one word.
// Two valid lists with the same positions have the same spots, so that ranges that touch
// or overlap become one without a case of their own.
type spots uint64

// spots needs a valid range: a shift by a negative number would panic.
func (s Span) spots() spots {
	return (spots(1)<<s.Hi - 1) &^ (spots(1)<<s.Lo - 1)
}

// meet gives Lo >= Hi where the two have nothing in common, which no valid range has.
func (s Span) meet(t Span) Span {
	return Span{Lo: max(s.Lo, t.Lo), Hi: min(s.Hi, t.Hi)}
}

// spans goes over the maximal ranges of the set, in ascending order.
func (p spots) spans() iter.Seq[Span] {
	return func(yield func(Span) bool) {
		// A copy, since an iterator may be used more than once.
		rest := p
		for rest != 0 {
			lo := bits.TrailingZeros64(uint64(rest))
			long := bits.TrailingZeros64(^uint64(rest >> lo))
			s := Span{Lo: lo, Hi: lo + long}
			if !yield(s) {
				return
			}
			rest &^= s.spots()
		}
	}
}

// list is empty if the set needs more ranges than a valid list may have.
func (p spots) list() []Span {
	var out []Span
	for s := range p.spans() {
		if len(out) == SpansMost {
			return nil
		}
		out = append(out, s)
	}
	return out
}

// spotsOf needs valid ranges, for the same reason as Span.spots.
func spotsOf(list []Span) spots {
	var p spots
	for _, s := range list {
		p |= s.spots()
	}
	return p
}

// SpanOk says whether a part is one: not empty, and within bounds.
func SpanOk(s Span) bool { return 0 <= s.Lo && s.Lo < s.Hi && s.Hi <= SpanMost }

// SpanMeet is what two parts have in common.
func SpanMeet(a Span, b Span) (Span, bool) {
	// Checked first: the intersection of invalid ranges may look valid.
	if !SpanOk(a) || !SpanOk(b) {
		return Span{}, false
	}
	both := a.meet(b)
	if !SpanOk(both) {
		return Span{}, false
	}
	return both, true
}

// SpansOk says whether parts are in order, apart from one another.
func SpansOk(list []Span) bool {
	if len(list) > SpansMost {
		return false
	}
	// Below every position, so that the first range may start at 0.
	end := -1
	for _, s := range list {
		if !SpanOk(s) || s.Lo <= end {
			return false
		}
		end = s.Hi
	}
	return true
}

// SpansAdd is parts with one more.
func SpansAdd(list []Span, s Span) []Span {
	if !SpansOk(list) || !SpanOk(s) {
		return nil
	}
	return (spotsOf(list) | s.spots()).list()
}

// SpansCut is parts without one.
func SpansCut(list []Span, s Span) []Span {
	if !SpansOk(list) || !SpanOk(s) {
		return nil
	}
	return (spotsOf(list) &^ s.spots()).list()
}

// SpansMeet is what parts have in common with one.
func SpansMeet(list []Span, s Span) []Span {
	if !SpansOk(list) || !SpanOk(s) {
		return nil
	}
	return (spotsOf(list) & s.spots()).list()
}

// SpansHave says whether all of a part is in parts.
func SpansHave(list []Span, s Span) bool {
	if !SpansOk(list) || !SpanOk(s) {
		return false
	}
	return s.spots()&^spotsOf(list) == 0
}

// SpansMany is how many places are in parts.
func SpansMany(list []Span) int {
	if !SpansOk(list) {
		return 0
	}
	return bits.OnesCount64(uint64(spotsOf(list)))
}
