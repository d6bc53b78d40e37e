package tests

import (
	"fmt"
	"math"
	"math/rand"
	"runtime"
	"slices"
	"strings"
	"testing"
	"time"

	"loop.example/pannage/impl"
)

// Promise 5: a request is executed once, however often it is sent; durable contents are never lost;
// and requests of an earlier epoch are rejected.

func req(who, epoch, num, obj, at int, data string) impl.Req {
	return impl.Req{Who: who, Epoch: epoch, Num: num, Obj: obj, At: at, Data: data}
}

// reqOk says whether the request can be one, by the document's numbers.
func reqOk(q impl.Req) bool {
	in := func(n, lo, hi int) bool { return lo <= n && n <= hi }
	for i := range len(q.Data) {
		if strings.IndexByte(letters, q.Data[i]) < 0 {
			return false
		}
	}
	return in(q.Who, 0, 2) && in(q.Epoch, 0, 100) && in(q.Num, 1, 1000) && in(q.Obj, 0, 2) &&
		in(len(q.Data), 1, 48) && in(q.At, 0, 48-len(q.Data))
}

// ruled is the number of the document's rule that applies first, with 0 for the last one.
func ruled(q impl.Req, last, floors []int) int {
	switch {
	case !reqOk(q):
		return 1
	case q.Epoch < floors[q.Who]:
		return 2
	case q.Num < last[q.Who]+1:
		return 3
	case q.Num != last[q.Who]+1:
		return 4
	}
	return 0
}

// shelf is a store in the plainest way, to hold the results against: what was executed since the beginning,
// how much of that a crash leaves, and the floors. It has no contents and no numbers to get wrong.
type shelf struct {
	done   []impl.Req
	sure   int
	floors [3]int
}

// replayed is the objects and the numbers that the requests make out of nothing.
func replayed(list []impl.Req) ([]string, []int) {
	var objs [3]slots
	many := make([]int, 3)
	for _, q := range list {
		objs[q.Obj] = objs[q.Obj].write(q.At, q.Data)
		many[q.Who]++
	}
	return []string{objs[0].text(), objs[1].text(), objs[2].text()}, many
}

func (h shelf) store() impl.Store {
	s := impl.Store{Floors: slices.Clone(h.floors[:])}
	s.Now, s.Last = replayed(h.done)
	s.Sure, s.SureLast = replayed(h.done[:h.sure])
	return s
}

func (h *shelf) do(q impl.Req) int {
	_, last := replayed(h.done)
	code := ruled(q, last, h.floors[:])
	if code == 0 {
		h.done = append(h.done, q)
	}
	return code
}

func (h *shelf) fall() { h.done = h.done[:h.sure] }

func (h *shelf) sync() { h.sure = len(h.done) }

func (h *shelf) fence(who, epoch int) { h.floors[who] = max(h.floors[who], epoch) }

// done is a store that need not have come out of requests, after one more.
func done(s impl.Store, q impl.Req) (impl.Store, int) {
	s = cloneStore(s)
	code := ruled(q, s.Last, s.Floors)
	if code == 0 {
		s.Now[q.Obj] = slotsOf(s.Now[q.Obj]).write(q.At, q.Data).text()
		s.Last[q.Who] = q.Num
	}
	return s, code
}

func sameStores(a, b impl.Store) bool {
	return slices.Equal(a.Now, b.Now) && slices.Equal(a.Sure, b.Sure) && slices.Equal(a.Last, b.Last) &&
		slices.Equal(a.SureLast, b.SureLast) && slices.Equal(a.Floors, b.Floors)
}

func noStore(s impl.Store) bool {
	return len(s.Now) == 0 && len(s.Sure) == 0 && len(s.Last) == 0 && len(s.SureLast) == 0 && len(s.Floors) == 0
}

// cloneStore has lists without unused capacity.
func cloneStore(s impl.Store) impl.Store {
	return impl.Store{
		Now: slices.Clip(slices.Clone(s.Now)), Sure: slices.Clip(slices.Clone(s.Sure)),
		Last: slices.Clip(slices.Clone(s.Last)), SureLast: slices.Clip(slices.Clone(s.SureLast)), Floors: slices.Clip(slices.Clone(s.Floors)),
	}
}

// baseStore has something else in each place, so that places taken for one another are found.
func baseStore() impl.Store {
	return impl.Store{
		Now: []string{"abcdef", "", "0123"}, Sure: []string{"ab", "xyz", ""},
		Last: []int{7, 0, 999}, SureLast: []int{4, 0, 998}, Floors: []int{3, 0, 100},
	}
}

// withStore is baseStore but for what f does.
func withStore(f func(s *impl.Store)) impl.Store {
	s := baseStore()
	f(&s)
	return s
}

// goodStores are at the edges of what a store may have.
func goodStores() []impl.Store {
	long := textOf(48, 1)
	return []impl.Store{
		impl.StoreNew(), baseStore(),
		{Now: []string{long, long, long}, Sure: make([]string, 3), Last: []int{1000, 1000, 1000}, SureLast: []int{1000, 1000, 1000}, Floors: []int{100, 100, 100}},
		{Now: make([]string, 3), Sure: []string{long, "", long}, Last: []int{1000, 1000, 0}, SureLast: []int{0, 1000, 0}, Floors: []int{100, 0, 100}},
		{Now: []string{".", "...", ""}, Sure: []string{"", ".", "....."}, Last: []int{0, 1, 1000}, SureLast: []int{0, 1, 999}, Floors: []int{0, 100, 99}},
	}
}

// randomStores need not have come out of requests. They are the same ones at each run.
func randomStores(n int) []impl.Store {
	r := rand.New(rand.NewSource(21))
	out := goodStores()
	for len(out) < n {
		s := impl.Store{Now: make([]string, 3), Sure: make([]string, 3), Last: make([]int, 3), SureLast: make([]int, 3), Floors: make([]int, 3)}
		for i := range 3 {
			s.Now[i], s.Sure[i] = textOf(r.Intn(49), r.Intn(37)), textOf(r.Intn(49), r.Intn(37))
			s.Last[i] = r.Intn([]int{3, 40, 1001}[r.Intn(3)])
			s.SureLast[i] = r.Intn(s.Last[i] + 1)
			s.Floors[i] = r.Intn([]int{1, 5, 101}[r.Intn(3)])
		}
		out = append(out, s)
	}
	return out
}

// badStores are not valid, each for one reason as far as that can be, in each of its places.
func badStores() []impl.Store {
	out := []impl.Store{{}}
	bad := func(f func(s *impl.Store)) { out = append(out, withStore(f)) }
	for _, n := range []int{0, 1, 2, 4, 6} {
		bad(func(s *impl.Store) { s.Now = make([]string, n) })
		bad(func(s *impl.Store) { s.Sure = make([]string, n) })
		bad(func(s *impl.Store) { s.Last, s.SureLast[0], s.SureLast[2] = make([]int, n), 0, 0 })
		bad(func(s *impl.Store) { s.SureLast = make([]int, n) })
		bad(func(s *impl.Store) { s.Floors = make([]int, n) })
	}
	bad(func(s *impl.Store) { s.Last, s.SureLast = s.Last[:2], s.SureLast[:2] })
	bad(func(s *impl.Store) { s.Last, s.SureLast, s.Floors = s.Last[:2], s.SureLast[:2], s.Floors[:2] })
	bad(func(s *impl.Store) {
		s.Last, s.SureLast, s.Floors = append(s.Last, 1), append(s.SureLast, 1), append(s.Floors, 1)
	})
	bad(func(s *impl.Store) { s.Now, s.Sure = s.Now[:2], s.Sure[:2] })
	bad(func(s *impl.Store) { s.Now, s.Sure = append(s.Now, "a"), append(s.Sure, "a") })
	for i := range 3 {
		for _, text := range badTexts() {
			bad(func(s *impl.Store) { s.Now[i] = text })
			bad(func(s *impl.Store) { s.Sure[i] = text })
		}
		for _, n := range []int{-1, -2, math.MinInt} {
			bad(func(s *impl.Store) { s.SureLast[i] = n })
			bad(func(s *impl.Store) { s.Last[i], s.SureLast[i] = n, 0 })
			bad(func(s *impl.Store) { s.Last[i], s.SureLast[i] = n, n })
			bad(func(s *impl.Store) { s.Floors[i] = n })
		}
		for _, n := range []int{1001, 1002, math.MaxInt} {
			bad(func(s *impl.Store) { s.Last[i] = n })
			bad(func(s *impl.Store) { s.SureLast[i] = n })
			bad(func(s *impl.Store) { s.Last[i], s.SureLast[i] = n, n })
		}
		for _, n := range []int{0, 1, 7, 999} {
			bad(func(s *impl.Store) { s.Last[i], s.SureLast[i] = n, n+1 })
		}
		for _, n := range []int{101, 102, 1000, math.MaxInt} {
			bad(func(s *impl.Store) { s.Floors[i] = n })
		}
	}
	return out
}

// badReqs cannot be executed by any store. But for its one fault, each would be the next one of its client in a store of nothing.
func badReqs() []impl.Req {
	var out []impl.Req
	for _, n := range []int{-1, -2, 3, 4, 48, math.MinInt, math.MaxInt} {
		out = append(out, req(n, 0, 1, 0, 0, "a"), req(0, 0, 1, n, 0, "a"))
	}
	for _, n := range []int{-1, -2, 101, 102, 1000, math.MinInt, math.MaxInt} {
		out = append(out, req(0, n, 1, 0, 0, "a"))
	}
	for _, n := range []int{0, -1, -2, 1001, 1002, math.MinInt, math.MaxInt} {
		out = append(out, req(0, 0, n, 0, 0, "a"))
	}
	for _, n := range []int{-1, -48, 48, 49, 1000, math.MinInt, math.MaxInt} {
		out = append(out, req(0, 0, 1, 0, n, "a"))
	}
	for _, n := range []int{-1, 47, 48, math.MaxInt, math.MaxInt - 1} {
		out = append(out, req(0, 0, 1, 0, n, "ab"))
	}
	for _, bad := range append(badTexts(), "") {
		out = append(out, req(0, 0, 1, 0, 0, bad), req(2, 100, 1, 2, 3, bad))
	}
	return append(out, req(1, 1, 1, 1, 1, textOf(48, 0)), impl.Req{}, req(0, 0, 1, 0, 48, ""), req(0, 0, 1, 0, -1, textOf(48, 0)))
}

// traffic is requests of all clients as they come one behind the other, none of them refused by a store of nothing.
func traffic(r *rand.Rand, n int) []impl.Req {
	var out []impl.Req
	var last, epoch [3]int
	for range n {
		who := r.Intn(3)
		last[who]++
		epoch[who] += r.Intn(2)
		at := r.Intn(48)
		out = append(out, req(who, min(epoch[who], 100), last[who], r.Intn(3), at, textOf(1+r.Intn(min(48-at, 9)), r.Intn(37))))
	}
	return out
}

func allFine(codes []int) bool {
	return !slices.ContainsFunc(codes, func(c int) bool { return c != impl.DoFine })
}

// mustAll is the store after requests of which none is refused.
func mustAll(t *testing.T, s impl.Store, list []impl.Req) impl.Store {
	t.Helper()
	out, codes := impl.StoreAll(s, list)
	if len(codes) != len(list) || !allFine(codes) {
		t.Fatal(s, list, codes)
	}
	return out
}

func TestStoreConstants(t *testing.T) {
	got := []int{impl.DoFine, impl.DoForm, impl.DoFenced, impl.DoAgain, impl.DoGap, impl.NumMost, impl.EpochMost}
	if !slices.Equal(got, []int{0, 1, 2, 3, 4, 1000, 100}) {
		t.Error(got)
	}
}

func TestStoreNew(t *testing.T) {
	want := impl.Store{Now: make([]string, 3), Sure: make([]string, 3), Last: make([]int, 3), SureLast: make([]int, 3), Floors: make([]int, 3)}
	if got := impl.StoreNew(); !sameStores(got, want) || !impl.StoreOk(got) {
		t.Error(got)
	}
}

func TestStoreOk(t *testing.T) {
	for _, s := range randomStores(500) {
		if !impl.StoreOk(s) {
			t.Error("not accepted:", s)
		}
	}
	for _, bad := range badStores() {
		if impl.StoreOk(bad) {
			t.Error("accepted:", bad)
		}
	}
}

func TestStoreDoEdges(t *testing.T) {
	for _, c := range []struct {
		name string
		q    impl.Req
		code int
		want string // Now of the object, where the code is DoFine
	}{
		{"the next number", req(0, 3, 8, 0, 1, "xx"), 0, "axxdef"},
		{"the number that was executed last", req(0, 3, 7, 0, 1, "xx"), 3, ""},
		{"the number before the last one", req(0, 3, 6, 0, 1, "xx"), 3, ""},
		{"the last number that is durable", req(0, 3, 4, 0, 1, "xx"), 3, ""},
		{"the first number that is not durable", req(0, 3, 5, 0, 1, "xx"), 3, ""},
		{"number 1 again", req(0, 3, 1, 0, 1, "xx"), 3, ""},
		{"one greater than the next", req(0, 3, 9, 0, 1, "xx"), 4, ""},
		{"two greater than the next", req(0, 3, 10, 0, 1, "xx"), 4, ""},
		{"the greatest number, too soon", req(0, 3, 1000, 0, 1, "xx"), 4, ""},
		{"the first one of a client", req(1, 0, 1, 1, 0, "a"), 0, "a"},
		{"the second one of a client first", req(1, 0, 2, 1, 0, "a"), 4, ""},
		{"number 0", req(1, 0, 0, 1, 0, "a"), 1, ""},
		{"the greatest number, as the next", req(2, 100, 1000, 2, 0, "a"), 0, "a123"},
		{"a number above the greatest", req(2, 100, 1001, 2, 0, "a"), 1, ""},
		{"the epoch just below the floor", req(0, 2, 8, 0, 0, "x"), 2, ""},
		{"the epoch at the floor", req(0, 3, 8, 0, 0, "x"), 0, "xbcdef"},
		{"the epoch just above the floor", req(0, 4, 8, 0, 0, "x"), 0, "xbcdef"},
		{"the first epoch, far below the floor", req(0, 0, 8, 0, 0, "x"), 2, ""},
		{"the first epoch, with floor 0", req(1, 0, 1, 0, 0, "x"), 0, "xbcdef"},
		{"an epoch below 0", req(1, -1, 1, 0, 0, "x"), 1, ""},
		{"the last epoch, with floor 0", req(1, 100, 1, 0, 0, "x"), 0, "xbcdef"},
		{"the last epoch, at the floor", req(2, 100, 1000, 0, 0, "x"), 0, "xbcdef"},
		{"an epoch just below the greatest floor", req(2, 99, 1000, 0, 0, "x"), 2, ""},
		{"an epoch above the last", req(1, 101, 1, 0, 0, "x"), 1, ""},
		{"another client's floor", req(1, 2, 1, 0, 0, "x"), 0, "xbcdef"},
		{"another client's object", req(1, 0, 1, 2, 0, "x"), 0, "x123"},
		{"at the end", req(0, 3, 8, 2, 4, "45"), 0, "012345"},
		{"over the end", req(0, 3, 8, 2, 3, "xy"), 0, "012xy"},
		{"behind the end", req(0, 3, 8, 2, 7, "x"), 0, "0123...x"},
		{"behind the end of an empty object", req(0, 3, 8, 1, 2, "x"), 0, "..x"},
		{"one byte that fills", req(0, 3, 8, 1, 0, "."), 0, "."},
		{"to the last position", req(0, 3, 8, 0, 47, "x"), 0, "abcdef" + strings.Repeat(".", 41) + "x"},
		{"two bytes to the last position", req(0, 3, 8, 1, 46, "xy"), 0, strings.Repeat(".", 46) + "xy"},
		{"just past the last position", req(0, 3, 8, 1, 47, "xy"), 1, ""},
		{"behind the last position", req(0, 3, 8, 1, 48, "x"), 1, ""},
		{"all positions", req(0, 3, 8, 0, 0, textOf(48, 2)), 0, textOf(48, 2)},
		{"all positions and one more", req(0, 3, 8, 0, 0, textOf(49, 2)), 1, ""},
		{"all positions from 1 on", req(0, 3, 8, 0, 1, textOf(48, 2)), 1, ""},
		{"an At below 0", req(0, 3, 8, 0, -1, "xx"), 1, ""},
		{"no data", req(0, 3, 8, 0, 0, ""), 1, ""},
		{"data that is no file", req(0, 3, 8, 0, 0, "xY"), 1, ""},
		{"client -1", req(-1, 3, 8, 0, 0, "x"), 1, ""},
		{"client 3", req(3, 3, 8, 0, 0, "x"), 1, ""},
		{"object -1", req(0, 3, 8, -1, 0, "x"), 1, ""},
		{"object 3", req(0, 3, 8, 3, 0, "x"), 1, ""},
	} {
		want := baseStore()
		if c.code == 0 {
			want.Now[c.q.Obj], want.Last[c.q.Who] = c.want, c.q.Num
		}
		if got, code := impl.StoreDo(baseStore(), c.q); code != c.code || !sameStores(got, want) {
			t.Errorf("%s: %d %v, not %d %v", c.name, code, got, c.code, want)
		}
	}
}

// Where several rules apply, the first one is used.
func TestStoreDoOrder(t *testing.T) {
	forms := []struct {
		name string
		f    func(q *impl.Req)
	}{
		{"object", func(q *impl.Req) { q.Obj = 3 }},
		{"no data", func(q *impl.Req) { q.Data = "" }},
		{"data", func(q *impl.Req) { q.Data = "A" }},
		{"too long", func(q *impl.Req) { q.At, q.Data = 47, "xy" }},
		{"at", func(q *impl.Req) { q.At = -1 }},
	}
	for _, c := range []struct {
		name string
		q    impl.Req
		code int
	}{
		{"none", req(0, 3, 8, 0, 0, "x"), 0},
		{"fenced", req(0, 2, 8, 0, 0, "x"), 2},
		{"again", req(0, 3, 7, 0, 0, "x"), 3},
		{"gap", req(0, 3, 9, 0, 0, "x"), 4},
		{"fenced and again", req(0, 2, 7, 0, 0, "x"), 2},
		{"fenced and gap", req(0, 2, 9, 0, 0, "x"), 2},
		{"fenced and number 1", req(0, 0, 1, 0, 0, "x"), 2},
		{"fenced and number 1000", req(0, 0, 1000, 0, 0, "x"), 2},
	} {
		if got, code := impl.StoreDo(baseStore(), c.q); code != c.code || code != 0 && !sameStores(got, baseStore()) {
			t.Errorf("%s: %d %v", c.name, code, got)
		}
		for _, x := range forms {
			q := c.q
			x.f(&q)
			if got, code := impl.StoreDo(baseStore(), q); code != 1 || !sameStores(got, baseStore()) {
				t.Errorf("%s and %s: %d %v", c.name, x.name, code, got)
			}
		}
	}
	// An epoch that is none is below the floor too, a number that is none is too small or too great as well.
	for _, q := range []impl.Req{req(0, -1, 8, 0, 0, "x"), req(0, 2, 0, 0, 0, "x"), req(0, 2, 1001, 0, 0, "x"), req(0, 3, 0, 0, 0, "x"), req(0, 3, 1001, 0, 0, "x")} {
		if got, code := impl.StoreDo(baseStore(), q); code != 1 || !sameStores(got, baseStore()) {
			t.Error(q, code, got)
		}
	}
}

func TestStoreDoAgainstRules(t *testing.T) {
	r := rand.New(rand.NewSource(7))
	var many [5]int
	for _, s := range randomStores(300) {
		for range 60 {
			who := r.Intn(3)
			q := req(who, s.Floors[who]+r.Intn(4)-1, s.Last[who]+r.Intn(4)-1, r.Intn(3), r.Intn(48), textOf(1+r.Intn(6), r.Intn(37)))
			want, wantCode := done(s, q)
			got, code := impl.StoreDo(s, q)
			if code != wantCode || !sameStores(got, want) {
				t.Fatalf("%v of %v: %d %v, not %d %v", q, s, code, got, wantCode, want)
			}
			many[code]++
		}
	}
	for code, n := range many {
		if n < 500 {
			t.Error("hardly tested:", code, n)
		}
	}
}

func TestStoreDoOfInvalidRequests(t *testing.T) {
	for _, s := range append(goodStores(), withStore(func(s *impl.Store) { s.Last, s.SureLast, s.Floors = make([]int, 3), make([]int, 3), make([]int, 3) })) {
		for _, bad := range badReqs() {
			if reqOk(bad) {
				t.Fatal("it can be one:", bad)
			}
			if got, code := impl.StoreDo(s, bad); code != impl.DoForm || !sameStores(got, s) {
				t.Error(s, bad, code, got)
			}
		}
	}
}

// A client that had its greatest number is not served any more, however the request is numbered.
func TestStoreDoAtGreatestNumber(t *testing.T) {
	s := withStore(func(s *impl.Store) { s.Last[0] = 1000 })
	for n := -2; n <= 1003; n++ {
		want := impl.DoAgain
		if n < 1 || n > 1000 {
			want = impl.DoForm
		}
		if got, code := impl.StoreDo(s, req(0, 3, n, 0, 0, "x")); code != want || !sameStores(got, s) {
			t.Fatal(n, code, got)
		}
	}
}

func TestStoreDoUpToGreatestNumber(t *testing.T) {
	s := impl.StoreNew()
	for n := 1; n <= 1000; n++ {
		var code int
		if s, code = impl.StoreDo(s, req(1, 0, n, 2, n%48, textOf(1, n))); code != impl.DoFine || s.Last[1] != n {
			t.Fatal(n, code, s)
		}
	}
	if got, code := impl.StoreDo(s, req(1, 0, 1001, 2, 0, "a")); code != impl.DoForm || !sameStores(got, s) {
		t.Error(code, got)
	}
}

func TestStoreAllEdges(t *testing.T) {
	a, b, c := req(0, 3, 8, 0, 0, "x"), req(0, 3, 9, 0, 1, "y"), req(1, 0, 1, 0, 2, "z")
	for _, x := range []struct {
		name  string
		list  []impl.Req
		codes []int
		now   string
		last  []int
	}{
		{"none", nil, nil, "abcdef", []int{7, 0, 999}},
		{"one", []impl.Req{a}, []int{0}, "xbcdef", []int{8, 0, 999}},
		{"two of one client", []impl.Req{a, b}, []int{0, 0}, "xycdef", []int{9, 0, 999}},
		{"sent twice", []impl.Req{a, a}, []int{0, 3}, "xbcdef", []int{8, 0, 999}},
		{"sent twice with another between", []impl.Req{a, b, a, b}, []int{0, 0, 3, 3}, "xycdef", []int{9, 0, 999}},
		{"the second one first", []impl.Req{b, a, b}, []int{4, 0, 0}, "xycdef", []int{9, 0, 999}},
		{"another client between", []impl.Req{a, c, b}, []int{0, 0, 0}, "xyzdef", []int{9, 1, 999}},
		{"the same place", []impl.Req{a, req(0, 3, 9, 0, 0, "y")}, []int{0, 0}, "ybcdef", []int{9, 0, 999}},
		{"the same place, and the first one again", []impl.Req{a, req(0, 3, 9, 0, 0, "y"), a}, []int{0, 0, 3}, "ybcdef", []int{9, 0, 999}},
		{"the same number with other data", []impl.Req{a, req(0, 3, 8, 0, 0, "y")}, []int{0, 3}, "xbcdef", []int{8, 0, 999}},
		{"the same number of another client", []impl.Req{c, req(2, 100, 1000, 0, 0, "x")}, []int{0, 0}, "xbzdef", []int{7, 1, 1000}},
		{"a later epoch, then the earlier one", []impl.Req{req(0, 5, 8, 0, 0, "x"), b}, []int{0, 0}, "xycdef", []int{9, 0, 999}},
		{"refused in the middle", []impl.Req{a, req(0, 2, 9, 0, 1, "q"), {}, b}, []int{0, 2, 1, 0}, "xycdef", []int{9, 0, 999}},
		{"every code", []impl.Req{{}, req(0, 2, 8, 0, 0, "x"), req(0, 3, 7, 0, 0, "x"), b, a}, []int{1, 2, 3, 4, 0}, "xbcdef", []int{8, 0, 999}},
		{"a number that was refused stays free", []impl.Req{req(0, 3, 8, 0, 47, "xy"), a}, []int{1, 0}, "xbcdef", []int{8, 0, 999}},
	} {
		want := withStore(func(s *impl.Store) { s.Now[0], s.Last = x.now, x.last })
		if got, codes := impl.StoreAll(baseStore(), x.list); !slices.Equal(codes, x.codes) || !sameStores(got, want) {
			t.Errorf("%s: %v %v, not %v %v", x.name, codes, got, x.codes, want)
		}
	}
}

// StoreAll is StoreDo again and again.
func TestStoreAllIsStoreDo(t *testing.T) {
	r := rand.New(rand.NewSource(9))
	bad := badReqs()
	for _, s := range randomStores(120) {
		list := traffic(r, r.Intn(30))
		for i := range list {
			list[i].Num += s.Last[list[i].Who]
			list[i].Epoch += s.Floors[list[i].Who] - r.Intn(2)*r.Intn(3)
			if r.Intn(6) == 0 {
				list[i] = list[r.Intn(i+1)]
			}
			if r.Intn(12) == 0 {
				list[i] = bad[r.Intn(len(bad))]
			}
		}
		want, wantCodes := s, []int(nil)
		for _, q := range list {
			next, code := impl.StoreDo(want, q)
			want, wantCodes = next, append(wantCodes, code)
		}
		if got, codes := impl.StoreAll(s, list); !slices.Equal(codes, wantCodes) || !sameStores(got, want) {
			t.Fatal(s, list, codes, got)
		}
	}
}

func TestStoreAllOfMany(t *testing.T) {
	list := make([]impl.Req, 20000)
	for i := range list {
		list[i] = req(2, 9, 1+i/20, 1, i/20%48, textOf(1, i/20))
	}
	got, codes := impl.StoreAll(impl.StoreNew(), list)
	if len(codes) != len(list) || !slices.Equal(got.Last, []int{0, 0, 1000}) || len(got.Now[1]) != 48 {
		t.Fatal(len(codes), got)
	}
	for i, code := range codes {
		if (code == impl.DoFine) != (i%20 == 0) || code != impl.DoFine && code != impl.DoAgain {
			t.Fatal(i, code)
		}
	}
}

// Everything that can be done, in any order, held against what was done since the beginning.
func TestStoreAgainstShelf(t *testing.T) {
	r := rand.New(rand.NewSource(13))
	bad, spans := badReqs(), allSpans()
	many := map[string]int{}
	for range 60 {
		var h shelf
		s, sent := impl.StoreNew(), []impl.Req{{}}
		for range 150 {
			who := r.Intn(3)
			_, last := replayed(h.done)
			q := req(who, h.floors[who]+r.Intn(2), last[who]+1, r.Intn(3), r.Intn(45), textOf(1+r.Intn(5), r.Intn(37)))
			what, code, want := "", 0, 0
			switch n := r.Intn(24); {
			case n == 0:
				what, s = "sync", impl.StoreSync(s)
				h.sync()
			case n <= 2:
				what, s = "fall", impl.StoreFall(s)
				h.fall()
			case n == 3:
				what = "fence"
				epoch := r.Intn(h.floors[who] + 3)
				s, _ = impl.StoreFence(s, who, epoch)
				h.fence(who, epoch)
			case n <= 9:
				q = sent[r.Intn(len(sent))]
			case n == 10:
				q = bad[r.Intn(len(bad))]
			case n <= 12:
				q.Num += 1 + r.Intn(3)
			case n <= 14:
				q.Epoch = r.Intn(h.floors[who] + 1)
			}
			if what == "" {
				s, code = impl.StoreDo(s, q)
				want = h.do(q)
				what = fmt.Sprint("code ", want)
				sent = append(sent, q)
			}
			many[what]++
			obj, p := r.Intn(3), spans[r.Intn(len(spans))]
			read, ok := impl.StoreRead(s, obj, p)
			if code != want || !sameStores(s, h.store()) || !impl.StoreOk(s) || !ok || read != impl.TextRead(h.store().Now[obj], p) {
				t.Fatalf("%s %v: %d %v, not %d %v", what, q, code, s, want, h.store())
			}
		}
	}
	for _, what := range []string{"sync", "fall", "fence", "code 0", "code 1", "code 2", "code 3", "code 4"} {
		if many[what] < 200 {
			t.Error("hardly tested:", what, many[what])
		}
	}
}

// However often the requests are sent again, and whenever, each is executed once.
func TestRequestIsExecutedOnce(t *testing.T) {
	r := rand.New(rand.NewSource(15))
	for range 100 {
		list := traffic(r, 25)
		want := mustAll(t, impl.StoreNew(), list)
		var again []impl.Req
		var wantCodes []int
		for i, q := range list {
			again, wantCodes = append(again, q), append(wantCodes, impl.DoFine)
			for range r.Intn(4) {
				again, wantCodes = append(again, list[r.Intn(i+1)]), append(wantCodes, impl.DoAgain)
			}
		}
		if got, codes := impl.StoreAll(impl.StoreNew(), again); !slices.Equal(codes, wantCodes) || !sameStores(got, want) {
			t.Fatal(again, codes, got)
		}
	}
}

// What a crash lost is executed when it is sent again, what it did not lose is not.
func TestRequestsSentAgainAfterCrash(t *testing.T) {
	r := rand.New(rand.NewSource(17))
	for n := range 60 {
		list := traffic(r, 20)
		sure := n % 21
		before := mustAll(t, impl.StoreSync(mustAll(t, impl.StoreNew(), list[:sure])), list[sure:])
		for from := range sure + 1 {
			got, codes := impl.StoreAll(impl.StoreFall(before), list[from:])
			for i, code := range codes {
				want := impl.DoFine
				if i+from < sure {
					want = impl.DoAgain
				}
				if code != want {
					t.Fatal(sure, from, codes)
				}
			}
			if !sameStores(got, before) {
				t.Fatal(sure, from, got, before)
			}
		}
	}
}

func TestRequestsSentAgainAfterCrashEdges(t *testing.T) {
	a, b := req(1, 0, 1, 0, 0, "a"), req(1, 0, 2, 0, 1, "b")
	both := mustAll(t, impl.StoreNew(), []impl.Req{a, b})
	half := mustAll(t, impl.StoreSync(mustAll(t, impl.StoreNew(), []impl.Req{a})), []impl.Req{b})
	for _, c := range []struct {
		name  string
		s     impl.Store
		list  []impl.Req
		codes []int
		now   string
		last  int
	}{
		{"lost, in order", impl.StoreFall(both), []impl.Req{a, b}, []int{0, 0}, "ab", 2},
		{"lost, the second one alone", impl.StoreFall(both), []impl.Req{b}, []int{4}, "", 0},
		{"lost, and sent again twice", impl.StoreFall(both), []impl.Req{a, a}, []int{0, 3}, "a", 1},
		{"not lost", impl.StoreFall(impl.StoreSync(both)), []impl.Req{a, b}, []int{3, 3}, "ab", 2},
		{"not lost, next number", impl.StoreFall(impl.StoreSync(both)), []impl.Req{req(1, 0, 3, 0, 0, "c")}, []int{0}, "cb", 3},
		{"half lost", impl.StoreFall(half), []impl.Req{a, b}, []int{3, 0}, "ab", 2},
		{"half lost, the lost one alone", impl.StoreFall(half), []impl.Req{b}, []int{0}, "ab", 2},
		{"half lost, nothing again", impl.StoreFall(half), nil, nil, "a", 1},
		{"half lost, one too great", impl.StoreFall(half), []impl.Req{req(1, 0, 3, 0, 0, "c")}, []int{4}, "a", 1},
		{"fell twice", impl.StoreFall(impl.StoreFall(half)), []impl.Req{b}, []int{0}, "ab", 2},
		{"lost, sent again, lost again", impl.StoreFall(mustAll(t, impl.StoreFall(half), []impl.Req{b})), []impl.Req{b}, []int{0}, "ab", 2},
		{"synchronized after the crash", impl.StoreFall(impl.StoreSync(impl.StoreFall(half))), []impl.Req{a, b}, []int{3, 0}, "ab", 2},
		{"no crash", half, []impl.Req{a, b}, []int{3, 3}, "ab", 2},
	} {
		got, codes := impl.StoreAll(c.s, c.list)
		if !slices.Equal(codes, c.codes) || got.Now[0] != c.now || got.Last[1] != c.last {
			t.Errorf("%s: %v %v", c.name, codes, got)
		}
	}
}

func TestStoreSyncAndFall(t *testing.T) {
	for _, s := range randomStores(300) {
		want := cloneStore(s)
		want.Sure, want.SureLast = slices.Clone(s.Now), slices.Clone(s.Last)
		if got := impl.StoreSync(s); !sameStores(got, want) || !impl.StoreOk(got) {
			t.Fatal("sync", s, got)
		}
		want = cloneStore(s)
		want.Now, want.Last = slices.Clone(s.Sure), slices.Clone(s.SureLast)
		if got := impl.StoreFall(s); !sameStores(got, want) || !impl.StoreOk(got) {
			t.Fatal("fall", s, got)
		}
		synced := impl.StoreSync(s)
		if got := impl.StoreFall(synced); !sameStores(got, synced) {
			t.Fatal("sync and fall", s, got)
		}
		fallen := impl.StoreFall(s)
		if got := impl.StoreSync(fallen); !sameStores(got, fallen) {
			t.Fatal("fall and sync", s, got)
		}
	}
}

// Whatever happens without a synchronization, a crash brings back what was durable.
func TestDurableContentsAreNeverLost(t *testing.T) {
	r := rand.New(rand.NewSource(19))
	for _, s := range randomStores(100) {
		sure := impl.StoreFall(s)
		for range 30 {
			who := r.Intn(3)
			switch r.Intn(8) {
			case 0:
				s = impl.StoreFall(s)
			case 1:
				s, _ = impl.StoreFence(s, who, r.Intn(101))
			default:
				s, _ = impl.StoreDo(s, req(who, 100, s.Last[who]+r.Intn(2), r.Intn(3), r.Intn(40), textOf(8, r.Intn(37))))
			}
			fallen := impl.StoreFall(s)
			sure.Floors = s.Floors
			if !slices.Equal(s.Sure, sure.Sure) || !slices.Equal(s.SureLast, sure.SureLast) || !sameStores(fallen, sure) {
				t.Fatal(s, fallen, sure)
			}
		}
	}
}

func TestStoreFence(t *testing.T) {
	for _, s := range randomStores(40) {
		for who := range 3 {
			for epoch := range 101 {
				want := cloneStore(s)
				if want.Floors[who] < epoch {
					want.Floors[who] = epoch
				}
				if got, ok := impl.StoreFence(s, who, epoch); !ok || !sameStores(got, want) {
					t.Fatal(s, who, epoch, got, ok)
				}
			}
			for _, epoch := range []int{-1, -2, 101, 102, 1000, math.MinInt, math.MaxInt} {
				if got, ok := impl.StoreFence(s, who, epoch); ok || !sameStores(got, s) {
					t.Fatal(s, who, epoch, got, ok)
				}
			}
		}
		for _, who := range badClients() {
			for _, epoch := range []int{0, 50, 100, -1, 101} {
				if got, ok := impl.StoreFence(s, who, epoch); ok || !sameStores(got, s) {
					t.Fatal(s, who, epoch, got, ok)
				}
			}
		}
	}
}

func TestStoreFenceEdges(t *testing.T) {
	for _, c := range []struct {
		name   string
		who    int
		epoch  int
		floors []int
		ok     bool
	}{
		{"higher", 0, 4, []int{4, 0, 100}, true},
		{"the same", 0, 3, []int{3, 0, 100}, true},
		{"lower", 0, 2, []int{3, 0, 100}, true},
		{"to 0", 0, 0, []int{3, 0, 100}, true},
		{"0 at 0", 1, 0, []int{3, 0, 100}, true},
		{"1 at 0", 1, 1, []int{3, 1, 100}, true},
		{"to the last epoch", 1, 100, []int{3, 100, 100}, true},
		{"below the last epoch", 2, 99, []int{3, 0, 100}, true},
		{"past the last epoch", 0, 101, []int{3, 0, 100}, false},
		{"an epoch below 0", 0, -1, []int{3, 0, 100}, false},
		{"client -1", -1, 4, []int{3, 0, 100}, false},
		{"client 3", 3, 4, []int{3, 0, 100}, false},
	} {
		want := withStore(func(s *impl.Store) { s.Floors = c.floors })
		if got, ok := impl.StoreFence(baseStore(), c.who, c.epoch); ok != c.ok || !sameStores(got, want) {
			t.Errorf("%s: %v %v", c.name, got, ok)
		}
	}
}

// A fence rejects what is below it for ever: after a lower fence, a crash, and a synchronization.
func TestRequestsOfEarlierEpochs(t *testing.T) {
	fence := func(who, epoch int) func(s impl.Store) impl.Store {
		return func(s impl.Store) impl.Store {
			s, ok := impl.StoreFence(s, who, epoch)
			if !ok {
				t.Fatal(who, epoch)
			}
			return s
		}
	}
	after := map[string][]func(s impl.Store) impl.Store{
		"nothing":                 nil,
		"a lower fence":           {fence(1, 6)},
		"a fence at 0":            {fence(1, 0)},
		"a crash":                 {impl.StoreFall},
		"a synchronization":       {impl.StoreSync},
		"both":                    {impl.StoreSync, impl.StoreFall},
		"a crash, and the other":  {impl.StoreFall, impl.StoreSync},
		"two crashes":             {impl.StoreFall, impl.StoreFall},
		"a crash, a lower fence":  {impl.StoreFall, fence(1, 2)},
		"fences of other clients": {fence(0, 1), fence(2, 100), impl.StoreFall},
	}
	start := mustAll(t, impl.StoreNew(), []impl.Req{req(1, 2, 1, 0, 0, "ab"), req(0, 0, 1, 1, 0, "cd")})
	for what, list := range after {
		s := fence(1, 7)(start)
		for _, f := range list {
			s = f(s)
		}
		for epoch := range 101 {
			for num := s.Last[1]; num <= s.Last[1]+2; num++ {
				q := req(1, epoch, max(num, 1), 0, 0, "x")
				got, code := impl.StoreDo(s, q)
				if fenced := code == impl.DoFenced; fenced != (epoch < 7) || fenced && !sameStores(got, s) {
					t.Fatal(what, q, code, got)
				}
			}
		}
		if s.Floors[1] != 7 {
			t.Error(what, s)
		}
	}
}

func TestStoreRead(t *testing.T) {
	for _, s := range randomStores(25) {
		for obj := range 3 {
			for _, p := range allSpans() {
				want := ""
				for i := p.Lo; i < p.Hi && i < len(s.Now[obj]); i++ {
					want += s.Now[obj][i : i+1]
				}
				if got, ok := impl.StoreRead(s, obj, p); !ok || got != want {
					t.Fatal(s, obj, p, got, ok)
				}
			}
			for _, p := range badSpans() {
				if got, ok := impl.StoreRead(s, obj, p); ok || got != "" {
					t.Fatal(s, obj, p, got, ok)
				}
			}
		}
		for _, obj := range []int{-1, -2, 3, 4, 48, math.MinInt, math.MaxInt} {
			for _, p := range append(badSpans(), sp(0, 1), sp(0, 48)) {
				if got, ok := impl.StoreRead(s, obj, p); ok || got != "" {
					t.Fatal(s, obj, p, got, ok)
				}
			}
		}
	}
}

func TestStoreReadEdges(t *testing.T) {
	for _, c := range []struct {
		name string
		obj  int
		p    impl.Span
		want string
		ok   bool
	}{
		{"within the object", 0, sp(1, 3), "bc", true},
		{"all of it", 0, sp(0, 6), "abcdef", true},
		{"past its end", 0, sp(4, 9), "ef", true},
		{"all positions", 0, sp(0, 48), "abcdef", true},
		{"its last position", 0, sp(5, 6), "f", true},
		{"from its end on", 0, sp(6, 7), "", true},
		{"far behind its end", 0, sp(40, 48), "", true},
		{"an empty object", 1, sp(0, 1), "", true},
		{"the last object", 2, sp(2, 4), "23", true},
		{"past the last position", 0, sp(0, 49), "", false},
		{"an empty range", 0, sp(2, 2), "", false},
		{"a range below 0", 0, sp(-1, 2), "", false},
		{"object -1", -1, sp(0, 1), "", false},
		{"object 3", 3, sp(0, 1), "", false},
	} {
		if got, ok := impl.StoreRead(baseStore(), c.obj, c.p); ok != c.ok || got != c.want {
			t.Errorf("%s: %q %v", c.name, got, ok)
		}
	}
}

// Each function gives what the document states for a store that is not valid, whatever the other arguments are.
func TestStoreOfInvalidStores(t *testing.T) {
	fine := []impl.Req{req(0, 3, 8, 0, 0, "x"), req(0, 3, 7, 0, 0, "x"), req(1, 0, 1, 1, 0, "a"), req(2, 100, 1000, 2, 47, "z")}
	for _, bad := range badStores() {
		for _, q := range append(fine, impl.Req{}, req(3, 0, 1, 0, 0, "a")) {
			if got, code := impl.StoreDo(bad, q); code != impl.DoForm || !noStore(got) {
				t.Fatal("do", bad, q, got, code)
			}
		}
		for n := range len(fine) + 1 {
			if got, codes := impl.StoreAll(bad, fine[:n]); len(codes) != 0 || !noStore(got) {
				t.Fatal("all", bad, got, codes)
			}
		}
		if got := impl.StoreSync(bad); !noStore(got) {
			t.Fatal("sync", bad, got)
		}
		if got := impl.StoreFall(bad); !noStore(got) {
			t.Fatal("fall", bad, got)
		}
		for who := -1; who <= 3; who++ {
			for _, n := range []int{-1, 0, 5, 100, 101} {
				if got, ok := impl.StoreFence(bad, who, n); ok || !noStore(got) {
					t.Fatal("fence", bad, who, n, got, ok)
				}
			}
			for _, p := range []impl.Span{sp(0, 1), sp(0, 48), sp(3, 3)} {
				if got, ok := impl.StoreRead(bad, who, p); ok || got != "" {
					t.Fatal("read", bad, who, p, got, ok)
				}
			}
		}
	}
}

func TestStoreSame(t *testing.T) {
	for _, c := range []struct {
		name string
		b    impl.Store
		want bool
	}{
		{"itself", baseStore(), true},
		{"the contents", withStore(func(s *impl.Store) { s.Now[0] = "abcdeg" }), false},
		{"the contents of the second object", withStore(func(s *impl.Store) { s.Now[1] = "." }), false},
		{"the contents of the last object", withStore(func(s *impl.Store) { s.Now[2] = "012" }), false},
		{"the durable contents", withStore(func(s *impl.Store) { s.Sure[0] = "ac" }), false},
		{"the durable contents of the last object", withStore(func(s *impl.Store) { s.Sure[2] = "a" }), false},
		{"a number", withStore(func(s *impl.Store) { s.Last[0] = 8 }), false},
		{"the last number", withStore(func(s *impl.Store) { s.Last[2] = 998 }), false},
		{"a durable number", withStore(func(s *impl.Store) { s.SureLast[0] = 5 }), false},
		{"the last durable number", withStore(func(s *impl.Store) { s.SureLast[2] = 0 }), false},
		{"a floor", withStore(func(s *impl.Store) { s.Floors[1] = 1 }), false},
		{"the last floor", withStore(func(s *impl.Store) { s.Floors[2] = 99 }), false},
		{"objects in each other's place", withStore(func(s *impl.Store) { slices.Reverse(s.Now) }), false},
		{"contents and durable contents in each other's place", withStore(func(s *impl.Store) { s.Now, s.Sure = s.Sure, s.Now }), false},
		{"numbers and durable numbers in each other's place", withStore(func(s *impl.Store) { s.Last, s.SureLast = s.SureLast, s.Last }), false},
		{"an object less", withStore(func(s *impl.Store) { s.Now = s.Now[:2] }), false},
		{"an object more", withStore(func(s *impl.Store) { s.Now = append(s.Now, "") }), false},
		{"a durable object less", withStore(func(s *impl.Store) { s.Sure = s.Sure[:2] }), false},
		{"a durable object more", withStore(func(s *impl.Store) { s.Sure = append(s.Sure, "") }), false},
		{"a number less", withStore(func(s *impl.Store) { s.Last = s.Last[:2] }), false},
		{"a number more", withStore(func(s *impl.Store) { s.Last = append(s.Last, 0) }), false},
		{"a durable number less", withStore(func(s *impl.Store) { s.SureLast = s.SureLast[:2] }), false},
		{"a durable number more", withStore(func(s *impl.Store) { s.SureLast = append(s.SureLast, 0) }), false},
		{"a floor less", withStore(func(s *impl.Store) { s.Floors = s.Floors[:2] }), false},
		{"a floor more", withStore(func(s *impl.Store) { s.Floors = append(s.Floors, 0) }), false},
		{"no contents", withStore(func(s *impl.Store) { s.Now = nil }), false},
		{"nothing", impl.Store{}, false},
	} {
		if got := impl.StoreSame(baseStore(), c.b); got != c.want {
			t.Errorf("%s: %v", c.name, got)
		}
		if got := impl.StoreSame(c.b, baseStore()); got != c.want {
			t.Errorf("%s, the other way round: %v", c.name, got)
		}
	}
	if !impl.StoreSame(impl.Store{}, impl.Store{Now: []string{}, Sure: []string{}, Last: []int{}, SureLast: make([]int, 0, 4), Floors: []int{}}) {
		t.Error("nothing, and nothing")
	}
}

func TestStoreSameOfAnyStores(t *testing.T) {
	stores := append(badStores(), randomStores(60)...)
	for i, a := range stores {
		if !impl.StoreSame(a, cloneStore(a)) {
			t.Error("not itself:", a)
		}
		for _, b := range stores[max(0, i-30):i] {
			if got := impl.StoreSame(a, b); got != sameStores(a, b) {
				t.Error(a, b, got)
			}
		}
	}
}

// storeFunc is one of the functions that give a store.
type storeFunc struct {
	name string
	f    func(s impl.Store) impl.Store
}

func storeFuncs() []storeFunc {
	out := []storeFunc{{"sync", impl.StoreSync}, {"fall", impl.StoreFall}}
	for _, q := range []impl.Req{req(0, 3, 8, 0, 1, "x"), req(1, 0, 1, 1, 0, "a"), req(0, 0, 8, 0, 1, "x"), req(0, 3, 7, 0, 1, "x"), req(0, 3, 9, 0, 1, "x"), {}} {
		out = append(out,
			storeFunc{fmt.Sprint("do ", q), func(s impl.Store) impl.Store { s, _ = impl.StoreDo(s, q); return s }},
			storeFunc{fmt.Sprint("all ", q), func(s impl.Store) impl.Store { s, _ = impl.StoreAll(s, []impl.Req{q, q}); return s }})
	}
	out = append(out, storeFunc{"all of none", func(s impl.Store) impl.Store { s, _ = impl.StoreAll(s, nil); return s }})
	for _, c := range [][2]int{{0, 9}, {0, 1}, {2, 100}, {3, 9}, {0, 101}} {
		out = append(out, storeFunc{fmt.Sprint("fence ", c), func(s impl.Store) impl.Store { s, _ = impl.StoreFence(s, c[0], c[1]); return s }})
	}
	return out
}

// roomyStore is the store with marks in the capacity behind each length, and a function that says whether it is still so.
func roomyStore(s impl.Store) (impl.Store, func() bool) {
	full := impl.Store{
		Now: append(slices.Clone(s.Now), "mark", "mark"), Sure: append(slices.Clone(s.Sure), "mark", "mark"),
		Last: append(slices.Clone(s.Last), -7, -7), SureLast: append(slices.Clone(s.SureLast), -7, -7), Floors: append(slices.Clone(s.Floors), -7, -7),
	}
	keep := cloneStore(full)
	out := impl.Store{
		Now: full.Now[:len(s.Now)], Sure: full.Sure[:len(s.Sure)],
		Last: full.Last[:len(s.Last)], SureLast: full.SureLast[:len(s.SureLast)], Floors: full.Floors[:len(s.Floors)],
	}
	return out, func() bool { return sameStores(full, keep) }
}

// spoilStore writes into all memory of a store, with its unused capacity.
func spoilStore(s impl.Store) {
	for i, list := range [][]string{s.Now[:cap(s.Now)], s.Sure[:cap(s.Sure)]} {
		for j := range list {
			list[j] = fmt.Sprint("spoiled ", i)
		}
	}
	for i, list := range [][]int{s.Last[:cap(s.Last)], s.SureLast[:cap(s.SureLast)], s.Floors[:cap(s.Floors)]} {
		for j := range list {
			list[j] = -90 - i
		}
	}
}

// spoiled says whether each list still has what spoilStore wrote into it, and not what it wrote into another one.
func spoiled(s impl.Store) bool {
	ok := true
	for i, list := range [][]string{s.Now, s.Sure} {
		ok = ok && !slices.ContainsFunc(list, func(v string) bool { return v != fmt.Sprint("spoiled ", i) })
	}
	for i, list := range [][]int{s.Last[:cap(s.Last)], s.SureLast[:cap(s.SureLast)], s.Floors[:cap(s.Floors)]} {
		ok = ok && !slices.ContainsFunc(list, func(v int) bool { return v != -90-i })
	}
	return ok
}

// Arguments stay as they are, beyond their length too, and a result is new memory, with its unused capacity,
// also where it is the store that was given; no two lists of a result share memory.
func TestStoreMemory(t *testing.T) {
	for _, given := range randomStores(40) {
		for _, x := range storeFuncs() {
			s, same := roomyStore(given)
			first, second := x.f(s), x.f(s)
			keep := cloneStore(second)
			spoilStore(first)
			if !spoiled(first) {
				t.Fatal(x.name, "has lists that share memory", first)
			}
			if !same() {
				t.Fatal(x.name, "changes its argument", s)
			}
			if !sameStores(second, keep) {
				t.Fatal(x.name, "has memory of another result", second)
			}
		}
	}
}

func TestStoreNewMemory(t *testing.T) {
	first, second := impl.StoreNew(), impl.StoreNew()
	spoilStore(first)
	if !spoiled(first) || !sameStores(second, impl.StoreNew()) || !impl.StoreOk(second) {
		t.Error(first, second)
	}
}

func TestStoreReadOnly(t *testing.T) {
	for _, given := range randomStores(20) {
		s, same := roomyStore(given)
		impl.StoreOk(s)
		impl.StoreSame(s, given)
		impl.StoreRead(s, 0, sp(0, 48))
		list := []impl.Req{req(0, 100, s.Last[0]+1, 0, 0, "x"), {}, req(9, 9, 9, 9, 9, "mark")}
		keep := slices.Clone(list)
		_, first := impl.StoreAll(s, list[:2])
		_, second := impl.StoreAll(s, list[:2])
		keepCodes := slices.Clone(second)
		for i := range first[:cap(first)] {
			first[:cap(first)][i] = -9
		}
		if !same() || !slices.Equal(list, keep) || !slices.Equal(second, keepCodes) {
			t.Fatal(s, list, second)
		}
	}
}

// checkEnded checks that there are no more goroutines than before.
func checkEnded(t *testing.T, before int) {
	t.Helper()
	// One that has said that it is done may still need a moment to be gone.
	for end := time.Now().Add(10 * time.Second); runtime.NumGoroutine() > before; time.Sleep(time.Millisecond) {
		if time.Now().After(end) {
			t.Fatal(before, runtime.NumGoroutine())
		}
	}
}

// What a call has started has ended when it returns: there are not more goroutines the more calls there were.
func TestStoreAllEnds(t *testing.T) {
	before := runtime.NumGoroutine()
	list := traffic(rand.New(rand.NewSource(23)), 10)
	for range 500 {
		impl.StoreAll(impl.StoreNew(), list)
		impl.StoreAll(impl.StoreNew(), nil)
		impl.StoreAll(impl.Store{}, list)
	}
	checkEnded(t, before)
}

// Calls at the same time with the same arguments do not know of each other.
func TestStoreAllAtTheSameTime(t *testing.T) {
	list := traffic(rand.New(rand.NewSource(25)), 60)
	s := baseStore()
	for i := range list {
		list[i].Num += s.Last[list[i].Who]
	}
	want, wantCodes := impl.StoreAll(s, list)
	for i := range 8 {
		t.Run(fmt.Sprint(i), func(t *testing.T) {
			t.Parallel()
			for range 50 {
				if got, codes := impl.StoreAll(s, list); !slices.Equal(codes, wantCodes) || !sameStores(got, want) {
					t.Fatal(codes, got)
				}
			}
		})
	}
}
