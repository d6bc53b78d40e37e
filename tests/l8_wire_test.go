package tests

import (
	"fmt"
	"math"
	"math/rand"
	"regexp"
	"slices"
	"strconv"
	"strings"
	"sync"
	"testing"

	"loop.example/pannage/impl"
)

// Promise 9: events and requests are read back from their texts.

// evOk says whether the event has a text, by the document's table and numbers.
func evOk(e impl.Ev) bool {
	in := func(n, lo, hi int) bool { return lo <= n && n <= hi }
	who := in(e.Who, 0, 2)
	span := in(e.Span.Lo, 0, 47) && in(e.Span.Hi, e.Span.Lo+1, 48)
	noSpan := e.Span.Lo == 0 && e.Span.Hi == 0
	switch e.Kind {
	case 1:
		return who && span && e.At == 0 && e.Data == ""
	case 2:
		return who && span && !e.Write && e.At == 0 && e.Data == ""
	case 3:
		return !e.Write && noSpan && reqOk(impl.Req{Who: e.Who, Num: 1, At: e.At, Data: e.Data})
	case 4, 7, 8:
		return who && !e.Write && noSpan && e.At == 0 && e.Data == ""
	case 5, 6:
		return e.Who == 0 && !e.Write && noSpan && e.At == 0 && e.Data == ""
	case 9:
		return e.Who == 0 && !e.Write && noSpan && in(e.At, 0, 7) && e.Data == ""
	}
	return false
}

// evLine is the text of an event that has one.
func evLine(e impl.Ev) string {
	switch e.Kind {
	case 1:
		mode := map[bool]string{false: "r", true: "w"}[e.Write]
		return fmt.Sprintf("lock %d %s %d %d", e.Who, mode, e.Span.Lo, e.Span.Hi)
	case 2:
		return fmt.Sprintf("read %d %d %d", e.Who, e.Span.Lo, e.Span.Hi)
	case 3:
		return fmt.Sprintf("write %d %d %s", e.Who, e.At, e.Data)
	case 4, 7, 8:
		return fmt.Sprintf("%s %d", map[int]string{4: "flush", 7: "die", 8: "evict"}[e.Kind], e.Who)
	case 9:
		return fmt.Sprintf("give %d", e.At)
	}
	return map[int]string{5: "sync", 6: "fall"}[e.Kind]
}

func reqLine(q impl.Req) string {
	return fmt.Sprintf("%d %d %d %d %d %s", q.Who, q.Epoch, q.Num, q.Obj, q.At, q.Data)
}

// forms are the texts as patterns: N stands for a number, D for data. What a number may be is another question.
func forms() map[string]*regexp.Regexp {
	out := map[string]*regexp.Regexp{}
	for _, form := range []string{
		"lock N (w|r) N N", "read N N N", "write N N D", "flush N", "die N", "evict N", "sync", "fall", "give N", "N N N N N D",
	} {
		pattern := strings.NewReplacer("N", "(0|[1-9][0-9]{0,4})", "D", "([a-z0-9.]{1,48})").Replace(form)
		out[form] = regexp.MustCompile("^" + pattern + "$")
	}
	return out
}

var formOf = forms()

// readLine is the event or the request of a text, by the patterns.
func readLine(text string) (e impl.Ev, q impl.Req, isEv bool, isReq bool) {
	for form, pattern := range formOf {
		m := pattern.FindStringSubmatch(text)
		if m == nil {
			continue
		}
		n := make([]int, len(m))
		for i := range m {
			n[i], _ = strconv.Atoi(m[i])
		}
		switch strings.Fields(form)[0] {
		case "lock":
			e = lockEv(n[1], m[2][0], n[3], n[4])
		case "read":
			e = readEv(n[1], n[2], n[3])
		case "write":
			e = writeEv(n[1], n[2], m[3])
		case "flush":
			e = flushEv(n[1])
		case "die":
			e = dieEv(n[1])
		case "evict":
			e = evictEv(n[1])
		case "sync":
			e = syncEv
		case "fall":
			e = fallEv
		case "give":
			e = giveEv(n[1])
		default:
			q = req(n[1], n[2], n[3], n[4], n[5], m[6])
		}
	}
	isEv, isReq = evOk(e), reqOk(q)
	if !isEv {
		e = impl.Ev{}
	}
	if !isReq {
		q = impl.Req{}
	}
	return e, q, isEv, isReq
}

// checkText checks the text of a value, which is empty if there is none, and what is read back from it.
func checkText[T comparable](t *testing.T, v T, want string, write func(T) string, read func(string) (T, bool)) {
	t.Helper()
	got := write(v)
	if got != want {
		t.Errorf("%+v: %q, not %q", v, got, want)
	}
	var none T
	back, ok := read(got)
	if ok != (want != "") || ok && back != v || !ok && back != none {
		t.Errorf("%+v is read back from %q as %+v %v", v, got, back, ok)
	}
}

// checkEv checks the text of any event.
func checkEv(t *testing.T, e impl.Ev) {
	t.Helper()
	want := ""
	if evOk(e) {
		want = evLine(e)
	}
	checkText(t, e, want, impl.EvText, impl.EvScan)
}

// checkReq checks the text of any request.
func checkReq(t *testing.T, q impl.Req) {
	t.Helper()
	want := ""
	if reqOk(q) {
		want = reqLine(q)
	}
	checkText(t, q, want, impl.ReqText, impl.ReqScan)
}

// checkRead checks what is read from a text. What is read has that text and no other.
func checkRead[T comparable](t *testing.T, text string, want T, isOne bool, write func(T) string, read func(string) (T, bool)) {
	t.Helper()
	got, ok := read(text)
	if got != want || ok != isOne {
		t.Errorf("%q: %+v %v, not %+v %v", text, got, ok, want, isOne)
	}
	if ok && write(got) != text {
		t.Errorf("%q is read, but the text is %q", text, write(got))
	}
}

// checkScan checks what is read from any text, and gives whether it is the text of an event, or of a request.
func checkScan(t *testing.T, text string) (bool, bool) {
	t.Helper()
	e, q, isEv, isReq := readLine(text)
	checkRead(t, text, e, isEv, impl.EvText, impl.EvScan)
	checkRead(t, text, q, isReq, impl.ReqText, impl.ReqScan)
	return isEv, isReq
}

// unread checks that a text is none, neither of an event nor of a request.
func unread(t *testing.T, text string) {
	t.Helper()
	if e, ok := impl.EvScan(text); ok || e != (impl.Ev{}) {
		t.Errorf("%q is read as %+v %v", text, e, ok)
	}
	if q, ok := impl.ReqScan(text); ok || q != (impl.Req{}) {
		t.Errorf("%q is read as %+v %v", text, q, ok)
	}
}

func TestEvTextEdges(t *testing.T) {
	long := textOf(48, 3)
	for _, c := range []struct {
		e    impl.Ev
		text string
	}{
		{impl.Ev{Kind: impl.EvLock, Who: 0, Write: true, Span: sp(0, 8)}, "lock 0 w 0 8"},
		{impl.Ev{Kind: impl.EvLock, Who: 2, Span: sp(3, 4)}, "lock 2 r 3 4"},
		{impl.Ev{Kind: impl.EvLock, Who: 1, Write: true, Span: sp(0, 48)}, "lock 1 w 0 48"},
		{impl.Ev{Kind: impl.EvLock, Who: 1, Span: sp(47, 48)}, "lock 1 r 47 48"},
		{impl.Ev{Kind: impl.EvLock, Span: sp(0, 1)}, "lock 0 r 0 1"},
		{impl.Ev{Kind: impl.EvRead, Who: 1, Span: sp(0, 48)}, "read 1 0 48"},
		{impl.Ev{Kind: impl.EvRead, Who: 2, Span: sp(9, 10)}, "read 2 9 10"},
		{impl.Ev{Kind: impl.EvWrite, Who: 2, At: 46, Data: "ab"}, "write 2 46 ab"},
		{impl.Ev{Kind: impl.EvWrite, At: 47, Data: "z"}, "write 0 47 z"},
		{impl.Ev{Kind: impl.EvWrite, Who: 1, Data: long}, "write 1 0 " + long},
		{impl.Ev{Kind: impl.EvWrite, Who: 1, At: 1, Data: long[1:]}, "write 1 1 " + long[1:]},
		{impl.Ev{Kind: impl.EvFlush, Who: 0}, "flush 0"},
		{impl.Ev{Kind: impl.EvFlush, Who: 2}, "flush 2"},
		{impl.Ev{Kind: impl.EvSync}, "sync"},
		{impl.Ev{Kind: impl.EvFall}, "fall"},
		{impl.Ev{Kind: impl.EvDie, Who: 1}, "die 1"},
		{impl.Ev{Kind: impl.EvEvict, Who: 2}, "evict 2"},
		{impl.Ev{Kind: impl.EvGive, At: 0}, "give 0"},
		{impl.Ev{Kind: impl.EvGive, At: 7}, "give 7"},
		// What is no number may begin with a nought, and may be spelt as something else in the text.
		{impl.Ev{Kind: impl.EvWrite, Data: "007"}, "write 0 0 007"},
		{impl.Ev{Kind: impl.EvWrite, Data: "0"}, "write 0 0 0"},
		{impl.Ev{Kind: impl.EvWrite, Data: "w"}, "write 0 0 w"},
		{impl.Ev{Kind: impl.EvWrite, Data: "sync"}, "write 0 0 sync"},
		{impl.Ev{Kind: impl.EvWrite, Data: "."}, "write 0 0 ."},
		{impl.Ev{Kind: impl.EvWrite, Data: "..."}, "write 0 0 ..."},
		{impl.Ev{Kind: impl.EvWrite, At: 28, Data: "99999999999999999999"}, "write 0 28 99999999999999999999"},
	} {
		if got := impl.EvText(c.e); got != c.text {
			t.Errorf("%+v: %q, not %q", c.e, got, c.text)
		}
		if got, ok := impl.EvScan(c.text); !ok || got != c.e {
			t.Errorf("%q: %+v %v, not %+v", c.text, got, ok, c.e)
		}
		checkEv(t, c.e)
		if isEv, isReq := checkScan(t, c.text); !isEv || isReq {
			t.Errorf("the patterns: %q: %v %v", c.text, isEv, isReq)
		}
	}
}

// allEvs is every event that has a text, but for the data: there is one for each place and length.
func allEvs() []impl.Ev {
	out := []impl.Ev{syncEv, fallEv}
	for who := range 3 {
		for _, s := range allSpans() {
			data := textOf(s.Hi-s.Lo, s.Lo*7+who)
			out = append(out, lockEv(who, 'r', s.Lo, s.Hi), lockEv(who, 'w', s.Lo, s.Hi), readEv(who, s.Lo, s.Hi), writeEv(who, s.Lo, data))
		}
		out = append(out, flushEv(who), dieEv(who), evictEv(who))
	}
	for at := range 8 {
		out = append(out, giveEv(at))
	}
	return out
}

func TestEvTextOfAllEvents(t *testing.T) {
	seen := map[string]impl.Ev{}
	for _, e := range allEvs() {
		checkEv(t, e)
		text := impl.EvText(e)
		if other, ok := seen[text]; text == "" || ok {
			t.Fatalf("%q is the text of %+v and of %+v", text, e, other)
		}
		seen[text] = e
		if isEv, isReq := checkScan(t, text); !isEv || isReq {
			t.Fatalf("the patterns: %q: %v %v", text, isEv, isReq)
		}
	}
	if len(seen) != 3*1176*4+9+2+8 {
		t.Error(len(seen))
	}
}

func TestEvTextOfEachByte(t *testing.T) {
	for c := range 256 {
		for _, data := range []string{string([]byte{byte(c)}), string([]byte{'a', byte(c)}), string([]byte{byte(c), 'a'}), string([]byte{'a', byte(c), '0'})} {
			checkEv(t, writeEv(1, 3, data))
			checkReq(t, req(1, 2, 3, 2, 5, data))
			checkScan(t, "write 1 3 "+data)
			checkScan(t, "1 2 3 2 5 "+data)
		}
	}
}

// samples is an event of each kind, with no field of its text zero as far as that can be.
func samples() []impl.Ev {
	return []impl.Ev{
		lockEv(1, 'w', 2, 4), lockEv(2, 'r', 13, 48), readEv(1, 2, 4), writeEv(2, 10, "ab0."), flushEv(1), syncEv, fallEv, dieEv(2), evictEv(1), giveEv(3),
	}
}

// fieldChange gives one field of an event another value.
type fieldChange struct {
	field string
	f     func(e *impl.Ev)
}

// fieldChanges are of each field alone, to values that are not zero: such that could be one's in some text, and others.
func fieldChanges() []fieldChange {
	out := []fieldChange{{"Write", func(e *impl.Ev) { e.Write = true }}}
	for _, n := range append(farNumbers(), 1, 2, 3, 7, 8, 10, 48) {
		out = append(out,
			fieldChange{"Who", func(e *impl.Ev) { e.Who = n }},
			fieldChange{"At", func(e *impl.Ev) { e.At = n }},
			fieldChange{"Span", func(e *impl.Ev) { e.Span.Lo = n }},
			fieldChange{"Span", func(e *impl.Ev) { e.Span.Hi = n }},
			fieldChange{"Span", func(e *impl.Ev) { e.Span = sp(n, n) }},
		)
	}
	for _, s := range append(badSpans(), sp(0, 1), sp(0, 48), sp(2, 4), sp(47, 48)) {
		out = append(out, fieldChange{"Span", func(e *impl.Ev) { e.Span = s }})
	}
	for _, data := range append(badTexts(), "a", ".", "0", "w", textOf(48, 0), strings.Repeat("a", 100000)) {
		out = append(out, fieldChange{"Data", func(e *impl.Ev) { e.Data = data }})
	}
	return out
}

// A field that the text does not contain must be zero, in each kind and each such field.
func TestEvTextOfWhatItDoesNotContain(t *testing.T) {
	contains := map[int]string{
		1: "Who Write Span", 2: "Who Span", 3: "Who At Data", 4: "Who", 5: "", 6: "", 7: "Who", 8: "Who", 9: "At",
	}
	for _, e := range samples() {
		checkEv(t, e)
		many := map[string]int{}
		for _, c := range fieldChanges() {
			other := e
			c.f(&other)
			checkEv(t, other)
			if strings.Contains(contains[e.Kind], c.field) || other == e {
				continue
			}
			many[c.field]++
			if got := impl.EvText(other); got != "" {
				t.Errorf("%+v: %q", other, got)
			}
		}
		if len(many) != 5-len(strings.Fields(contains[e.Kind])) {
			t.Error("hardly tested:", e, many)
		}
	}
}

func TestEvTextOfNoKind(t *testing.T) {
	for _, n := range []int{0, -1, -2, -9, 10, 11, 20, 256 + 1, 1<<32 + 1, math.MaxInt, math.MinInt, math.MinInt + 1} {
		for _, e := range append(samples(), impl.Ev{}) {
			e.Kind = n
			if evOk(e) {
				t.Fatal("it has a text:", e)
			}
			checkEv(t, e)
		}
	}
}

func TestEvTextOfInvalidEvents(t *testing.T) {
	for _, e := range oddEvents() {
		if got := impl.EvText(e); got != "" || evOk(e) {
			t.Errorf("%+v: %q", e, got)
		}
		checkEv(t, e)
	}
}

func TestEvTextOfClients(t *testing.T) {
	for _, e := range samples() {
		for who := -4; who <= 8; who++ {
			e.Who = who
			checkEv(t, e)
			checkScan(t, evLine(e))
		}
	}
}

func TestEvTextOfRanges(t *testing.T) {
	for lo := -3; lo <= 52; lo++ {
		for hi := -3; hi <= 52; hi++ {
			for _, e := range []impl.Ev{lockEv(0, 'r', lo, hi), lockEv(1, 'w', lo, hi), readEv(2, lo, hi)} {
				checkEv(t, e)
				checkScan(t, evLine(e))
			}
		}
	}
}

func TestEvTextOfPlaces(t *testing.T) {
	for at := -3; at <= 52; at++ {
		checkEv(t, giveEv(at))
		checkScan(t, evLine(giveEv(at)))
		for long := range 52 {
			e, q := writeEv(1, at, textOf(long, at+3)), req(1, 2, 3, 2, at, textOf(long, at+3))
			checkEv(t, e)
			checkScan(t, evLine(e))
			checkReq(t, q)
			checkScan(t, reqLine(q))
		}
	}
}

func TestGiveTextEdges(t *testing.T) {
	for at, want := range map[int]string{
		-1: "", 0: "give 0", impl.LateMost - 1: "give 7", impl.LateMost: "", math.MinInt: "", math.MaxInt: "",
	} {
		if got := impl.EvText(giveEv(at)); got != want {
			t.Errorf("%d: %q, not %q", at, got, want)
		}
	}
}

func TestReqTextEdges(t *testing.T) {
	long := textOf(48, 5)
	for _, c := range []struct {
		q    impl.Req
		text string
	}{
		{req(1, 0, 3, 2, 7, "ab"), "1 0 3 2 7 ab"},
		{req(0, 0, 1, 0, 0, "a"), "0 0 1 0 0 a"},
		{req(2, 0, 1, 0, 0, "a"), "2 0 1 0 0 a"},
		{req(0, 100, 1, 0, 0, "a"), "0 100 1 0 0 a"},
		{req(0, 0, 1000, 0, 0, "a"), "0 0 1000 0 0 a"},
		{req(0, 0, 1, 2, 0, "a"), "0 0 1 2 0 a"},
		{req(0, 0, 1, 0, 47, "a"), "0 0 1 0 47 a"},
		{req(0, 0, 1, 0, 46, "ab"), "0 0 1 0 46 ab"},
		{req(0, 0, 1, 0, 0, long), "0 0 1 0 0 " + long},
		{req(0, 0, 1, 0, 1, long[1:]), "0 0 1 0 1 " + long[1:]},
		{req(2, 100, 1000, 2, 0, long), "2 100 1000 2 0 " + long},
		{req(2, 100, 1000, 2, 47, "."), "2 100 1000 2 47 ."},
		{req(0, 0, 1, 0, 0, "."), "0 0 1 0 0 ."},
		{req(0, 0, 1, 0, 0, "0"), "0 0 1 0 0 0"},
		{req(0, 0, 1, 0, 0, "007"), "0 0 1 0 0 007"},
		{req(0, 1, 2, 1, 3, "sync"), "0 1 2 1 3 sync"},
		{req(1, 2, 3, 0, 4, "5"), "1 2 3 0 4 5"},
	} {
		if got := impl.ReqText(c.q); got != c.text {
			t.Errorf("%+v: %q, not %q", c.q, got, c.text)
		}
		if got, ok := impl.ReqScan(c.text); !ok || got != c.q {
			t.Errorf("%q: %+v %v, not %+v", c.text, got, ok, c.q)
		}
		checkReq(t, c.q)
		if isEv, isReq := checkScan(t, c.text); isEv || !isReq {
			t.Errorf("the patterns: %q: %v %v", c.text, isEv, isReq)
		}
	}
}

// Each field alone goes through its limits and past them.
func TestReqTextOfFields(t *testing.T) {
	near := func(lo, hi int) []int {
		return append(farNumbers(), lo-2, lo-1, lo, lo+1, (lo+hi)/2, hi-1, hi, hi+1, hi+2, 9, 10, 99, 10000, 1<<32, 1<<32+1)
	}
	base := req(1, 5, 17, 1, 20, "ab")
	good := 0
	try := func(f func(q *impl.Req)) {
		q := base
		f(&q)
		checkReq(t, q)
		checkScan(t, reqLine(q))
		if reqOk(q) {
			good++
		}
	}
	for _, n := range near(0, 2) {
		try(func(q *impl.Req) { q.Who = n })
		try(func(q *impl.Req) { q.Obj = n })
	}
	for _, n := range near(0, 100) {
		try(func(q *impl.Req) { q.Epoch = n })
	}
	for _, n := range near(1, 1000) {
		try(func(q *impl.Req) { q.Num = n })
	}
	for _, n := range near(0, 46) {
		try(func(q *impl.Req) { q.At = n })
	}
	for _, data := range append(badTexts(), "", "a", textOf(28, 1), textOf(29, 1), textOf(48, 1)) {
		try(func(q *impl.Req) { q.Data = data })
	}
	if good < 30 {
		t.Error("hardly tested:", good)
	}
}

func TestReqTextOfInvalidRequests(t *testing.T) {
	for _, q := range badReqs() {
		if got := impl.ReqText(q); got != "" {
			t.Errorf("%+v: %q", q, got)
		}
		if _, code := impl.StoreDo(impl.StoreNew(), q); code != impl.DoForm {
			t.Errorf("%+v can be a request", q)
		}
		checkReq(t, q)
	}
}

// A request has a text just where StoreDo does not return DoForm, whatever else StoreDo returns.
func TestReqTextIsThatOfStoreDo(t *testing.T) {
	r := rand.New(rand.NewSource(81))
	var many [5]int
	for range 20000 {
		some := func(lo, hi int) int { return lo + r.Intn(hi-lo+1) }
		q := req(some(0, 2), some(0, 100), some(1, 1000), some(0, 2), some(0, 47), "")
		q.Data = textOf(some(1, 48-q.At), r.Intn(37))
		if r.Intn(2) == 0 {
			q.Num = some(1, 3)
		}
		// One field in some is just past a limit.
		switch r.Intn(12) {
		case 0:
			q.Who = []int{-1, 3}[r.Intn(2)]
		case 1:
			q.Epoch = []int{-1, 101}[r.Intn(2)]
		case 2:
			q.Num = []int{0, 1001}[r.Intn(2)]
		case 3:
			q.Obj = []int{-1, 3}[r.Intn(2)]
		case 4:
			q.At = []int{-1, 49 - len(q.Data)}[r.Intn(2)]
		case 5:
			q.Data = []string{"", "A", "a b"}[r.Intn(3)]
		}
		s := goodStores()[r.Intn(len(goodStores()))]
		_, code := impl.StoreDo(s, q)
		many[code]++
		if (impl.ReqText(q) == "") != (code == impl.DoForm) {
			t.Fatalf("%+v: %q, but %d", q, impl.ReqText(q), code)
		}
		checkReq(t, q)
	}
	for code, n := range many {
		if n < 50 {
			t.Error("hardly tested:", code, n)
		}
	}
}

// sampleTexts are texts of events of each kind and of requests, in which numbers have one digit or more.
func sampleTexts() []string {
	return []string{
		"lock 0 w 0 8", "lock 2 r 3 14", "lock 1 w 10 48", "read 1 0 48", "read 2 11 12", "write 2 46 ab", "write 0 0 a0.",
		"flush 0", "die 1", "evict 2", "sync", "fall", "give 7", "give 0", "0 0 1 0 0 a", "1 10 200 2 7 ab", "2 100 1000 1 46 .0",
	}
}

func TestTextsThatAreNone(t *testing.T) {
	for _, text := range []string{
		"", " ", "  ", "\n", "\x00", ".", "0", "w", "r", "a", "ab", "fly", "lock", "read", "write", "flush", "die", "evict", "give",
		"lock 0", "lock 0 w", "lock 0 w 0", "lock 0 0 8", "lock w 0 8", "lock 0 x 0 8", "lock 0 W 0 8", "lock 0 R 0 8", "lock 0 rw 0 8",
		"lock 0 ww 0 8", "lock 0 1 0 8", "lock 0 true 0 8", "lock 0 write 0 8", "lock 0  0 8", "lock w 0 0 8", "lock 0 0 w 8", "lock 0 0 8 w",
		"lock 3 w 0 8", "lock -1 w 0 8", "lock 0 w 8 8", "lock 0 w 8 0", "lock 0 w 0 49", "lock 0 w -1 8", "lock 0 w 48 49", "lock 0 w 0 8 0", "lock 0 w 0 8 a",
		"LOCK 0 w 0 8", "Lock 0 w 0 8", "locks 0 w 0 8", "loc 0 w 0 8", "lock0 w 0 8", "lock 0w 0 8",
		"read 0 r 0 8", "read 0 w 0 8", "read 0 0", "read 0 0 8 8", "read 1 4 4", "read 3 0 4", "READ 0 0 8", "read 0 0 49",
		"write 0 1", "write 0 1 ", "write 0 a", "write a 0 1", "write 0 a 1", "write 0 1 a b", "write 0 1 a ", "write 0 1  a", "write 2 47 ab", "write 0 48 a", "write 0 -1 a",
		"write 3 0 a", "write 0 1 A", "write 0 1 a-b", "write 0 1 ä", "write 0 1 a\n", "write 0 1 a\x00", "write 0 0 " + textOf(49, 0), "write 0 1 " + textOf(48, 0), "WRITE 0 1 a",
		"flush 3", "flush -1", "flush 0 0", "flush a", "FLUSH 0", "flush0", "die 3", "die -1", "die", "DIE 0", "evict 3", "evict -1", "Evict 0", "evict 0 1",
		"sync 0", "sync ", " sync", "SYNC", "Sync", "syn", "syncs", "sync\n", "sync\x00", "sync sync", "fall 0", "fall ", "fall\t", "FALL", "fal", "falls", "fall fall",
		"give 8", "give -1", "give 9", "give 10", "give 0 0", "give a", "GIVE 0", "give 07", "give 00", "give -0", "give +0", "give ", "give  0",
		"1 0 0 2 7 ab", "1 0 1001 2 7 ab", "3 0 1 2 7 ab", "-1 0 1 2 7 ab", "1 101 1 2 7 ab", "1 -1 1 2 7 ab", "1 0 1 3 7 ab", "1 0 1 -1 7 ab", "1 0 1 2 47 ab", "1 0 1 2 -1 ab", "1 0 1 2 48 a",
		"1 0 1 2 7", "1 0 1 2 7 ", "1 0 1 2 ab", "1 0 1 2 7 a b", "1 0 1 2 7 AB", "1 0 1 2 7 ab ", " 1 0 1 2 7 ab", "1  0 1 2 7 ab", "01 0 1 2 7 ab", "1 00 1 2 7 ab",
		"1 0 1 2 7 " + textOf(48, 0), "1 0 1 2 0 " + textOf(49, 0), "a 0 1 2 7 ab", "1 0 a 2 7 ab", "req 1 0 1 2 7 ab", "1,0,1,2,7,ab", "0 0 0 0 0 ",
	} {
		unread(t, text)
		if isEv, isReq := checkScan(t, text); isEv || isReq {
			t.Errorf("the patterns: %q", text)
		}
	}
}

// A space too many or none at all, anywhere, and anything else that separates words elsewhere.
func TestTextsWithOtherSpaces(t *testing.T) {
	others := []string{"  ", "   ", "", "\t", "\n", "\r", "\v", "\f", "\x00", "\u00a0", "\u2003", " \t", "\t ", "\n ", " \n", ",", "_", "-", " - ", "+"}
	for _, text := range sampleTexts() {
		for i := range len(text) {
			if text[i] == ' ' {
				for _, other := range others {
					unread(t, text[:i]+other+text[i+1:])
				}
			}
		}
		for _, other := range others {
			if other != "" {
				unread(t, other+text)
				unread(t, text+other)
			}
		}
		words := strings.Split(text, " ")
		if len(words) > 1 {
			unread(t, strings.Join(words, "  "))
			unread(t, strings.Join(words, "\t"))
		}
		unread(t, " "+text+" ")
	}
}

func TestTextsWithOtherWords(t *testing.T) {
	for _, text := range sampleTexts() {
		words := strings.Split(text, " ")
		for i := range words {
			unread(t, strings.Join(slices.Delete(slices.Clone(words), i, i+1), " "))
			upper := slices.Clone(words)
			upper[i] = strings.ToUpper(upper[i])
			if upper[i] != words[i] {
				unread(t, strings.Join(upper, " "))
			}
			upper[i] = strings.ToUpper(words[i][:1]) + words[i][1:]
			if upper[i] != words[i] {
				unread(t, strings.Join(upper, " "))
			}
		}
		for i := 0; i <= len(words); i++ {
			for _, more := range []string{"0", "1", "w", "a", ".", "", "lock", words[max(i-1, 0)]} {
				unread(t, strings.Join(slices.Insert(slices.Clone(words), i, more), " "))
			}
		}
	}
}

// notDigits has what other readers of numbers take for the number n, or for some number.
func notDigits(n int) []string {
	s := strconv.Itoa(n)
	return []string{
		"0" + s, "00" + s, "000000000000000000000000" + s, "+" + s, "-" + s, "--" + s, "+-" + s, "-0", "+0", "-00", "", "-", "+", ".", "a", "w", "x",
		s + ".", s + ".0", "." + s, s + "e0", "0x" + s, "0X" + s, "0b" + s, "0o" + s, s + "_", "_" + s, s + "_0", "0_" + s, s + "x", s + "-", s + "+", "'" + s + "'", "\"" + s + "\"",
		"9223372036854775807", "9223372036854775808", "-9223372036854775808", "-9223372036854775809",
		// Those that would be 0 or 1 if they were cut to fit.
		"65536", "65537", "4294967296", "4294967297", "18446744073709551616", "18446744073709551617",
		"99999999999999999999999999999999", "1" + strings.Repeat("0", 1000), strings.Repeat("0", 1000) + s, strings.Repeat("9", 100000),
		s + "\x00", "\x00" + s, s + "\n", s + "\t", "\xff", s + "\xff", "ä", "\u0661", "\u0660", "\uff11", "\uff10", "\u00b2", "\u00bd", "\u2160", "\u2212" + s, "0\u0301",
	}
}

func TestTextsWithOtherNumbers(t *testing.T) {
	for _, text := range sampleTexts() {
		words := strings.Split(text, " ")
		for i, word := range words {
			n, err := strconv.Atoi(word)
			if err != nil {
				continue
			}
			for _, other := range notDigits(n) {
				changed := slices.Clone(words)
				changed[i] = other
				unread(t, strings.Join(changed, " "))
			}
		}
	}
}

// Every byte in place of every byte, put in between everywhere, and taken away.
func TestTextsWithOtherBytes(t *testing.T) {
	same, read := 0, 0
	for _, text := range sampleTexts() {
		for i := 0; i <= len(text); i++ {
			for c := range 256 {
				changed := []string{text[:i] + string([]byte{byte(c)}) + text[i:]}
				if i < len(text) {
					changed = append(changed, text[:i]+string([]byte{byte(c)})+text[i+1:], text[:i]+text[i+1:])
				}
				for _, other := range changed {
					isEv, isReq := checkScan(t, other)
					switch {
					case other == text:
						same++
					case isEv || isReq:
						read++
					}
				}
			}
		}
	}
	if same == 0 || read < 500 {
		t.Error("hardly tested:", same, read)
	}
}

// Words of the texts in any order, some of them spoilt, with one space or more.
func TestTextsOfRandomWords(t *testing.T) {
	r := rand.New(rand.NewSource(88))
	starts := []string{"lock", "read", "write", "flush", "die", "evict", "sync", "fall", "give", "0", "1", "Lock", "fly", ""}
	some := []string{"0", "1", "2", "3", "4", "7", "8", "10", "46", "47", "48", "49", "100", "101", "1000", "1001", "00", "01", "-1", "-0", "+1", "w", "r", "a", "ab", ".", "A", "", "sync"}
	evs, reqs := map[string]int{}, 0
	for range 400000 {
		words := []string{starts[r.Intn(len(starts))]}
		for range r.Intn(6) {
			// The first ones are valid in most places.
			words = append(words, some[r.Intn([]int{9, 18, len(some)}[r.Intn(3)])])
		}
		if r.Intn(2) == 0 && len(words) > 2 {
			words[2] = []string{"w", "r"}[r.Intn(2)]
		}
		if r.Intn(3) == 0 {
			words[len(words)-1] = []string{"a", "b0", "...", "zz", "xY"}[r.Intn(5)]
		}
		text := strings.Join(words, " ")
		isEv, isReq := checkScan(t, text)
		if isEv {
			evs[words[0]]++
		}
		if isReq {
			reqs++
		}
	}
	for _, start := range starts[:9] {
		if evs[start] < 30 {
			t.Error("hardly tested:", start, evs)
		}
	}
	if reqs < 30 || len(evs) != 9 {
		t.Error("hardly tested:", evs, reqs)
	}
}

// Events and requests with any values have a text or none, as the document's table says.
func TestTextsOfRandomFields(t *testing.T) {
	r := rand.New(rand.NewSource(89))
	number := func() int {
		if r.Intn(3) > 0 {
			return 0
		}
		return []int{-1, 1, 2, 3, 7, 8, 47, 48, 49, 100, 101, 1000, 1001, math.MinInt, math.MaxInt, -48}[r.Intn(16)]
	}
	data := func() string {
		return []string{"", "", "", "a", "0", ".", "ab c", "A", " ", textOf(48, 0), textOf(49, 0), "a\x00"}[r.Intn(12)]
	}
	var many [11]int
	for range 300000 {
		e := impl.Ev{Kind: r.Intn(11), Who: number(), Write: r.Intn(4) == 0, Span: sp(number(), number()), At: number(), Data: data()}
		checkEv(t, e)
		if evOk(e) {
			many[e.Kind]++
		}
		checkReq(t, req(number(), number(), number()+1, number(), number(), data()))
	}
	for kind, n := range many[1:10] {
		if n < 100 {
			t.Error("hardly tested:", kind+1, n)
		}
	}
}

// Whatever comes about in a file system has a text: its events, and the requests that it keeps or that are late.
func TestTextsOfWhatHappens(t *testing.T) {
	r := rand.New(rand.NewSource(90))
	many := map[string]int{}
	for range 25 {
		n := newTown(allLays()[r.Intn(24)])
		w, again := impl.WorldNew(n.lay), impl.WorldNew(n.lay)
		for range 80 {
			n.locks, n.alive, n.late = boardOf(w.Locks), [3]bool(w.Alive), w.Late
			e := someEvent(r, n)
			if !evOk(e) {
				continue
			}
			back, ok := impl.EvScan(impl.EvText(e))
			if !ok {
				t.Fatalf("%+v has no text", e)
			}
			w, _, _ = impl.WorldDo(w, e)
			again, _, _ = impl.WorldDo(again, back)
			if !sameWorlds(w, again) {
				t.Fatalf("%+v read back as %+v does not do the same", e, back)
			}
			for _, q := range w.Kept {
				checkReq(t, q)
				many["kept"]++
			}
			for _, q := range w.Late {
				checkReq(t, q)
				many["late"]++
			}
			many[strconv.Itoa(e.Kind)]++
		}
		for _, q := range slices.Concat(w.Kept, w.Late) {
			if impl.ReqText(q) == "" {
				t.Errorf("%+v has no text", q)
			}
		}
	}
	for _, what := range []string{"1", "2", "3", "4", "5", "6", "7", "8", "9", "kept", "late"} {
		if many[what] < 10 {
			t.Error("hardly tested:", what, many[what])
		}
	}
}

// Texts without an end in sight are no texts, and are read to the end if at all.
func TestTextsThatAreLong(t *testing.T) {
	for _, text := range []string{
		strings.Repeat(" ", 1<<20), strings.Repeat("lock 0 w 0 8 ", 50000), strings.Repeat("sync ", 100000), "write 0 0 " + strings.Repeat("a", 1<<20),
		"0 0 1 0 0 " + strings.Repeat("a", 1<<20), strings.Repeat("0", 1<<20), "give " + strings.Repeat("0", 1<<20), "give 0" + strings.Repeat(" ", 1<<20), strings.Repeat("0 ", 1<<19),
	} {
		unread(t, text)
	}
	long := strings.Repeat("a", 1<<20)
	if impl.EvText(writeEv(0, 0, long)) != "" || impl.EvText(impl.Ev{Kind: impl.EvSync, Data: long}) != "" || impl.ReqText(req(0, 0, 1, 0, 0, long)) != "" {
		t.Error("too long")
	}
}

// A call leaves nothing behind for another one, at the same time or later.
func TestTextsAtTheSameTime(t *testing.T) {
	var all sync.WaitGroup
	for i := range 8 {
		all.Go(func() {
			for _, e := range samples() {
				for range 20 {
					e.Who = e.Who * (i % 3)
					checkEv(t, e)
					checkReq(t, req(i%4, i, i, i%4, i, e.Data))
				}
			}
			for _, text := range sampleTexts() {
				checkScan(t, text)
			}
		})
	}
	all.Wait()
}
