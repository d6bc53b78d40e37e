package tests

import (
	"fmt"
	"math"
	"math/rand"
	"runtime"
	"slices"
	"strings"
	"testing"

	"loop.example/pannage/impl"
)

// Promise 7: all clients see one file: a read returns what was written last, except for modifications lost
// with a client that died or was evicted.
// Promise 8: delayed requests of an earlier epoch change nothing, and requests that were executed survive a crash of the store.

// lockEv asks for a lock of a mode of a board, 'r' or 'w'.
func lockEv(who int, mode byte, lo, hi int) impl.Ev {
	return impl.Ev{Kind: 1, Who: who, Write: mode == 'w', Span: sp(lo, hi)}
}

func readEv(who, lo, hi int) impl.Ev { return impl.Ev{Kind: 2, Who: who, Span: sp(lo, hi)} }

func writeEv(who, at int, data string) impl.Ev {
	return impl.Ev{Kind: 3, Who: who, At: at, Data: data}
}

func flushEv(who int) impl.Ev { return impl.Ev{Kind: 4, Who: who} }
func dieEv(who int) impl.Ev   { return impl.Ev{Kind: 7, Who: who} }
func evictEv(who int) impl.Ev { return impl.Ev{Kind: 8, Who: who} }
func giveEv(at int) impl.Ev   { return impl.Ev{Kind: 9, At: at} }

var syncEv, fallEv = impl.Ev{Kind: 5}, impl.Ev{Kind: 6}

// town is a file system in the plainest way, to hold the results against: for each client and each position
// what it may do there and what it keeps of it, and the store as a list of what was executed would leave it.
// None of its methods changes the town that it is called on.
type town struct {
	lay    impl.Lay
	deck   deck
	store  impl.Store
	locks  board
	caches [3]notes
	epochs [3]int
	alive  [3]bool
	kept   []impl.Req
	late   []impl.Req
}

func newTown(l impl.Lay) town {
	empty := noted("", "")
	return town{
		lay: l, deck: deal(l), locks: drawn(), caches: [3]notes{empty, empty, empty}, alive: [3]bool{true, true, true},
		store: impl.Store{Now: make([]string, 3), Sure: make([]string, 3), Last: make([]int, 3), SureLast: make([]int, 3), Floors: make([]int, 3)},
	}
}

// townOf has a file that is durable, locks and caches.
func townOf(l impl.Lay, file string, locks board, caches ...notes) town {
	n := newTown(l)
	copy(n.store.Now, n.deck.objects(file))
	copy(n.store.Sure, n.store.Now)
	n.locks = locks
	copy(n.caches[:], caches)
	return n
}

func (n town) file() string {
	out := []byte(strings.Repeat(".", 48))
	for i := range out {
		if s := n.store.Now[n.deck.obj[i]]; n.deck.at[i] < len(s) {
			out[i] = s[n.deck.at[i]]
		}
	}
	return string(out)
}

func (n town) text() string {
	out := []byte(n.file())
	for i := range out {
		for _, c := range n.caches {
			if c.has[i] == 'd' {
				out[i] = c.text[i]
			}
		}
	}
	return string(out)
}

func (n town) world() impl.World {
	w := impl.World{
		Lay: n.lay, Store: cloneStore(n.store), Epochs: slices.Clone(n.epochs[:]), Alive: slices.Clone(n.alive[:]),
		Kept: slices.Clone(n.kept), Late: slices.Clone(n.late),
	}
	w.Locks, _ = n.locks.table()
	for _, c := range n.caches {
		o, _ := c.own()
		w.Owns = append(w.Owns, o)
	}
	return w
}

// fits says whether no list is too long.
func (n town) fits() bool {
	_, ok := n.locks.table()
	for _, c := range n.caches {
		_, fine := c.own()
		ok = ok && fine
	}
	return ok
}

// asked is the requests of a write back, made byte by byte: one that comes right behind another in its unit makes it longer.
func (n town) asked(who int, p impl.Span) []impl.Req {
	var out []impl.Req
	c := n.caches[who]
	for i := p.Lo; i < p.Hi; i++ {
		switch {
		case c.has[i] != 'd':
		case i > p.Lo && c.has[i-1] == 'd' && n.deck.unit[i] == n.deck.unit[i-1]:
			out[len(out)-1].Data += string(c.text[i : i+1])
		default:
			out = append(out, req(who, n.epochs[who], n.store.Last[who]+len(out)+1, n.deck.obj[i], n.deck.at[i], string(c.text[i:i+1])))
		}
	}
	return out
}

func (n town) back(who int, p impl.Span) (town, bool) {
	for _, q := range n.asked(who, p) {
		var code int
		if n.store, code = done(n.store, q); code != 0 {
			return n, false
		}
		n.kept = append(slices.Clip(n.kept), q)
	}
	n.caches[who] = n.caches[who].clean(p)
	return n, n.fits()
}

// way is the town after a client has made way for another one.
func (n town) way(who int, write bool, p impl.Span) (town, bool) {
	n, ok := n.back(who, p)
	if !ok {
		return n, false
	}
	if !write {
		n.locks = n.locks.down(who, p)
		return n, n.fits()
	}
	n.locks = n.locks.drop(who, p)
	n.caches[who] = n.caches[who].drop(p)
	return n, n.fits()
}

func (n town) lock(e impl.Ev) (town, int) {
	bars := n.locks.bars(e.Who, e.Write, e.Span)
	for _, other := range bars {
		if !n.alive[other] {
			return n, 22
		}
	}
	for _, other := range bars {
		var ok bool
		if n, ok = n.way(other, e.Write, e.Span); !ok {
			return n, 24
		}
	}
	n.locks = n.locks.give(e.Who, e.Write, e.Span)
	if !n.fits() {
		return n, 24
	}
	return n, 0
}

func (n town) read(e impl.Ev) (town, string, int) {
	if !n.locks.may(e.Who, false, e.Span) {
		return n, "", 23
	}
	n.caches[e.Who] = n.caches[e.Who].fill(e.Span, n.file()[e.Span.Lo:e.Span.Hi])
	if !n.fits() {
		return n, "", 24
	}
	return n, string(n.caches[e.Who].text[e.Span.Lo:e.Span.Hi]), 0
}

func (n town) write(e impl.Ev) (town, int) {
	if !reqOk(req(0, 0, 1, 0, e.At, e.Data)) {
		return n, 20
	}
	if !n.locks.may(e.Who, true, sp(e.At, e.At+len(e.Data))) {
		return n, 23
	}
	n.caches[e.Who] = n.caches[e.Who].write(e.At, e.Data)
	if !n.fits() {
		return n, 24
	}
	return n, 0
}

func (n town) sync() town {
	n.store = cloneStore(n.store)
	n.store.Sure, n.store.SureLast, n.kept = slices.Clone(n.store.Now), slices.Clone(n.store.Last), nil
	return n
}

func (n town) fall() town {
	n.store = cloneStore(n.store)
	n.store.Now, n.store.Last = slices.Clone(n.store.Sure), slices.Clone(n.store.SureLast)
	for _, q := range n.kept {
		n.store, _ = done(n.store, q)
	}
	return n
}

func (n town) evict(who int) (town, int) {
	if n.epochs[who] == 100 {
		return n, 24
	}
	for _, q := range n.asked(who, sp(0, 48)) {
		if q.Num <= 1000 && len(n.late) < 8 {
			n.late = append(slices.Clip(n.late), q)
		}
	}
	n = n.sync()
	n.epochs[who]++
	n.store.Floors[who] = n.epochs[who]
	n.locks = n.locks.drop(who, sp(0, 48))
	n.caches[who] = noted("", "")
	n.alive[who] = true
	return n, 0
}

func (n town) give(at int) (town, int) {
	if at < 0 || at >= len(n.late) {
		return n, 20
	}
	store, code := done(n.store, n.late[at])
	n.store, n.late = store, append(slices.Clone(n.late[:at]), n.late[at+1:]...)
	return n, code
}

// first is the code of what is asked before anything is done.
func (n town) first(e impl.Ev) int {
	if e.Kind == 5 || e.Kind == 6 || e.Kind == 9 {
		return 0
	}
	switch s := e.Span; {
	case e.Kind < 1, e.Kind > 9, e.Who < 0, e.Who > 2:
		return 20
	case (e.Kind == 1 || e.Kind == 2) && (s.Lo < 0 || s.Hi > 48 || s.Lo >= s.Hi):
		return 20
	case e.Kind != 8 && !n.alive[e.Who]:
		return 21
	}
	return 0
}

// after is the town after an event, what was read, and the code.
func (n town) after(e impl.Ev) (town, string, int) {
	next, text, code := n, "", n.first(e)
	if code != 0 {
		return n, "", code
	}
	ok := true
	switch e.Kind {
	case 1:
		next, code = n.lock(e)
	case 2:
		next, text, code = n.read(e)
	case 3:
		next, code = n.write(e)
	case 4:
		if next, ok = n.back(e.Who, sp(0, 48)); !ok {
			code = 24
		}
	case 5:
		next = n.sync()
	case 6:
		next = n.fall()
	case 7:
		next.alive[e.Who], next.caches[e.Who] = false, noted("", "")
	case 8:
		next, code = n.evict(e.Who)
	case 9:
		next, code = n.give(e.At)
	}
	if code >= 20 {
		return n, "", code
	}
	return next, text, code
}

func sameWorlds(a, b impl.World) bool {
	return a.Lay == b.Lay && sameStores(a.Store, b.Store) && sameHolds(a.Locks, b.Locks) && slices.EqualFunc(a.Owns, b.Owns, sameOwns) &&
		slices.Equal(a.Epochs, b.Epochs) && slices.Equal(a.Alive, b.Alive) && slices.Equal(a.Kept, b.Kept) && slices.Equal(a.Late, b.Late)
}

func noWorld(w impl.World) bool { return sameWorlds(w, impl.World{}) }

// cloneWorld has lists without unused capacity.
func cloneWorld(w impl.World) impl.World {
	out := impl.World{
		Lay: w.Lay, Store: cloneStore(w.Store), Locks: cloneHolds(w.Locks), Epochs: slices.Clip(slices.Clone(w.Epochs)),
		Alive: slices.Clip(slices.Clone(w.Alive)), Kept: slices.Clip(slices.Clone(w.Kept)), Late: slices.Clip(slices.Clone(w.Late)),
	}
	for _, o := range w.Owns {
		out.Owns = append(out.Owns, cloneOwn(o))
	}
	out.Owns = slices.Clip(out.Owns)
	return out
}

// checkDo holds one event against the town, and gives what comes after.
func checkDo(t *testing.T, n town, w impl.World, e impl.Ev) (town, impl.World, int) {
	t.Helper()
	next, text, code := n.after(e)
	got, gotText, gotCode := impl.WorldDo(w, e)
	if want := next.world(); gotCode != code || gotText != text || !sameWorlds(got, want) {
		t.Fatalf("%+v of\n%+v:\n%+v %q %d, not\n%+v %q %d", e, w, got, gotText, gotCode, want, text, code)
	}
	if !impl.WorldOk(got) || impl.WorldText(got) != next.text() || impl.WorldFile(got) != next.file() {
		t.Fatalf("%+v of\n%+v:\n%+v, with text %q and file %q", e, w, got, impl.WorldText(got), impl.WorldFile(got))
	}
	return next, got, code
}

// randomCache is something of what a client may keep, modified where it may write.
func randomCache(r *rand.Rand, n town, who int) notes {
	file, held := n.file(), n.locks.where(who, "rw").many()
	combed := held == 48 && r.Intn(4) > 0 || r.Intn(8) == 0
	for turn := 1 + r.Intn(12); ; turn++ {
		out, c := noted("", ""), byte('.')
		for i := range impl.SpanMost {
			switch {
			case combed && turn < 30:
				// Twelve ranges, if the locks allow all of them.
				c = ".hd"[i%4%2*(1+r.Intn(2))*(1-i/24)]
			case i == 0 || r.Intn(turn) == 0:
				c = ".hd"[r.Intn(3)]
			}
			switch may := n.locks[who][i]; {
			case c == 'd' && may == 'w':
				out.has[i], out.text[i] = 'd', letters[r.Intn(len(letters))]
			case c != '.' && may != '.':
				out.has[i], out.text[i] = 'h', file[i]
			}
		}
		if _, ok := out.own(); ok {
			return out
		}
	}
}

// randomTown need not have come out of events: objects may be longer than their share of the file, and numbers as great as they may be.
func randomTown(r *rand.Rand, locks board) town {
	n := newTown(allLays()[r.Intn(24)])
	n.locks = locks
	for i := range 3 {
		n.store.Sure[i] = textOf(r.Intn(49), r.Intn(37))
		n.store.SureLast[i] = []int{0, r.Intn(50), 985 + r.Intn(12), 1000}[r.Intn(4)]
		n.store.Floors[i] = []int{0, r.Intn(5), 98 + r.Intn(3)}[r.Intn(3)]
		n.epochs[i] = min(100, n.store.Floors[i]+r.Intn(2)*r.Intn(4))
		n.alive[i] = r.Intn(6) > 0
	}
	n = n.fall()
	for range r.Intn(9) {
		who, at := r.Intn(3), r.Intn(44)
		q := req(who, n.epochs[who], n.store.Last[who]+1, r.Intn(3), at, textOf(1+r.Intn(4), r.Intn(37)))
		if s, code := done(n.store, q); code == 0 {
			n.store, n.kept = s, append(n.kept, q)
		}
		if floor := n.store.Floors[who]; floor > 0 && len(n.late) < 8 {
			n.late = append(n.late, req(who, r.Intn(floor), 1+r.Intn(1000), r.Intn(3), at, textOf(1+r.Intn(4), r.Intn(37))))
		}
	}
	for who := range 3 {
		if n.alive[who] {
			n.caches[who] = randomCache(r, n, who)
		}
	}
	return n
}

// randomTowns are valid, the same ones at each run.
func randomTowns(count int) []town {
	r := rand.New(rand.NewSource(41))
	out := []town{newTown(lay(1, 1)), newTown(lay(8, 3)), baseTown()}
	for i, b := range randomBoards(count - len(out)) {
		if i%4 == 3 {
			// One client alone, so that its lists are as long as they may be.
			b = drawn()
			b.put(r.Intn(3), sp(0, 48), "rwww"[r.Intn(4)])
		}
		out = append(out, randomTown(r, b))
	}
	return out
}

// someRange is any range, or one in which the client may do something.
func someRange(r *rand.Rand, n town, who int, these string) impl.Span {
	s := sp(r.Intn(48), 0)
	s.Hi = s.Lo + 1 + r.Intn(min(48-s.Lo, 1+r.Intn(48)))
	held := n.locks.where(who, these).ranges()
	if len(held) == 0 || r.Intn(3) == 0 {
		return s
	}
	h := held[r.Intn(len(held))]
	h.Lo += r.Intn(h.Hi - h.Lo)
	h.Hi -= r.Intn(h.Hi - h.Lo)
	if r.Intn(3) == 0 {
		h.Hi = h.Lo + 1
	}
	return h
}

func someEvent(r *rand.Rand, n town) impl.Ev {
	who := r.Intn(3)
	if !n.alive[who] && r.Intn(3) > 0 {
		return evictEv(who)
	}
	switch k := r.Intn(32); {
	case k < 10:
		s := someRange(r, n, (who+1)%3, "rw")
		return lockEv(who, "rw"[r.Intn(2)], s.Lo, s.Hi)
	case k < 15:
		s := someRange(r, n, who, "rw")
		return readEv(who, s.Lo, s.Hi)
	case k < 23:
		s := someRange(r, n, who, "w")
		return writeEv(who, s.Lo, textOf(s.Hi-s.Lo, r.Intn(37)))
	case k < 25:
		return flushEv(who)
	case k == 25:
		return syncEv
	case k == 26:
		return fallEv
	case k == 27:
		return dieEv(who)
	case k < 30:
		return evictEv(who)
	case k == 30:
		return giveEv(r.Intn(len(n.late) + 2))
	}
	return oddEvents()[r.Intn(len(oddEvents()))]
}

// oddEvents have something that is none.
func oddEvents() []impl.Ev {
	out := []impl.Ev{{}, {Kind: 10, Span: sp(0, 4), Data: "a"}, {Kind: -1}, {Kind: 20}, {Kind: math.MaxInt}, {Kind: math.MinInt}, giveEv(-1), giveEv(8), giveEv(math.MaxInt), giveEv(math.MinInt)}
	for _, who := range badClients() {
		out = append(out, lockEv(who, 'w', 0, 4), lockEv(who, 'r', 0, 4), readEv(who, 0, 4), writeEv(who, 0, "a"), flushEv(who), dieEv(who), evictEv(who))
	}
	for _, s := range badSpans() {
		for who := range 3 {
			out = append(out, lockEv(who, 'w', s.Lo, s.Hi), lockEv(who, 'r', s.Lo, s.Hi), readEv(who, s.Lo, s.Hi))
		}
	}
	for _, text := range append(badTexts(), "") {
		out = append(out, writeEv(0, 0, text), writeEv(1, 4, text), writeEv(2, 47, text))
	}
	for _, at := range append(farNumbers(), 48) {
		out = append(out, writeEv(0, at, "a"), writeEv(1, at, "ab"), writeEv(2, at, textOf(48, 0)))
	}
	return append(out, writeEv(0, 47, "ab"), writeEv(1, 1, textOf(48, 0)))
}

// worldOf is a file system with a durable file, locks and caches.
func worldOf(l impl.Lay, file string, locks board, caches ...notes) impl.World {
	return townOf(l, file, locks, caches...).world()
}

// mustDo is the file system after events that are all handled with the code 0.
func mustDo(t *testing.T, w impl.World, list ...impl.Ev) impl.World {
	t.Helper()
	for i, e := range list {
		var code int
		if w, _, code = impl.WorldDo(w, e); code != 0 {
			t.Fatalf("event %d, %+v: %d", i, e, code)
		}
	}
	return w
}

// refuses checks that an event has a code of WorldForm or greater and leaves the file system as it is.
func refuses(t *testing.T, w impl.World, e impl.Ev, code int) {
	t.Helper()
	if got, text, c := impl.WorldDo(w, e); c != code || text != "" || !sameWorlds(got, w) {
		t.Errorf("%+v: %+v %q %d, not %d", e, got, text, c, code)
	}
}

// reads checks what a client reads.
func reads(t *testing.T, w impl.World, who, lo, hi int, want string) impl.World {
	t.Helper()
	got, text, code := impl.WorldDo(w, readEv(who, lo, hi))
	if code != 0 || text != want {
		t.Errorf("client %d reads %q %d, not %q", who, text, code, want)
	}
	return got
}

// dotted is a whole file, with '.' behind the end of s.
func dotted(s string) string { return s + strings.Repeat(".", 48-len(s)) }

// looks is what a file system has, in the form in which the tests draw it, but for the epochs, who is connected and the requests.
type looks struct {
	locks  board
	caches [3]notes
	file   string
}

func (x looks) check(t *testing.T, w impl.World) {
	t.Helper()
	if !sameHolds(w.Locks, holdsOf(x.locks)) {
		t.Errorf("locks %v, not %v", w.Locks, holdsOf(x.locks))
	}
	for who, o := range w.Owns {
		if x.caches[who] == (notes{}) {
			x.caches[who] = noted("", "")
		}
		if want := ownOf(x.caches[who]); !sameOwns(o, want) {
			t.Errorf("cache %d is %v, not %v", who, o, want)
		}
	}
	if got, want := impl.WorldFile(w), dotted(x.file); got != want {
		t.Errorf("stored %q, not %q", got, want)
	}
}

func checkReqs(t *testing.T, what string, got []impl.Req, want ...impl.Req) {
	t.Helper()
	if !slices.Equal(got, want) {
		t.Errorf("%s: %v, not %v", what, got, want)
	}
}

func TestWorldConstants(t *testing.T) {
	got := []int{
		impl.EvLock, impl.EvRead, impl.EvWrite, impl.EvFlush, impl.EvSync, impl.EvFall, impl.EvDie, impl.EvEvict, impl.EvGive,
		impl.WorldFine, impl.WorldForm, impl.WorldDead, impl.WorldHeld, impl.WorldLock, impl.WorldFull, impl.LateMost, impl.EvMost,
	}
	if !slices.Equal(got, []int{1, 2, 3, 4, 5, 6, 7, 8, 9, 0, 20, 21, 22, 23, 24, 8, 60}) {
		t.Error(got)
	}
}

func TestWorldNew(t *testing.T) {
	for _, l := range allLays() {
		w := impl.WorldNew(l)
		blank := impl.Own{Text: strings.Repeat(".", 48)}
		want := impl.World{
			Lay: l, Store: impl.StoreNew(), Locks: make([]impl.Hold, 3), Owns: []impl.Own{blank, blank, blank},
			Epochs: []int{0, 0, 0}, Alive: []bool{true, true, true},
		}
		if !sameWorlds(w, want) || !impl.WorldOk(w) || impl.WorldText(w) != blank.Text || impl.WorldFile(w) != blank.Text {
			t.Error(l, w)
		}
	}
	for _, l := range badLays() {
		if w := impl.WorldNew(l); !noWorld(w) {
			t.Error(l, w)
		}
	}
}

func TestWorldAgainstTown(t *testing.T) {
	r := rand.New(rand.NewSource(43))
	many := map[string]int{}
	for _, n := range randomTowns(500) {
		w := n.world()
		if !impl.WorldOk(w) || impl.WorldText(w) != n.text() || impl.WorldFile(w) != n.file() {
			t.Fatal("not accepted:", w)
		}
		for range 12 {
			e := someEvent(r, n)
			var code int
			n, w, code = checkDo(t, n, w, e)
			many[fmt.Sprint(e.Kind, " ", code)]++
		}
	}
	for _, what := range []string{
		"1 0", "1 20", "1 22", "1 24", "2 0", "2 20", "2 23", "2 24", "3 0", "3 20", "3 23", "3 24",
		"4 0", "4 24", "5 0", "6 0", "7 0", "8 0", "8 24", "9 2", "9 20",
	} {
		if many[what] < 10 {
			t.Error("hardly tested:", what, many[what])
		}
	}
}

// The same, one event of each of very many towns.
func TestWorldOnceAgainstTown(t *testing.T) {
	r := rand.New(rand.NewSource(45))
	boards := randomBoards(300)
	for range 6000 {
		n := randomTown(r, boards[r.Intn(len(boards))])
		checkDo(t, n, n.world(), someEvent(r, n))
	}
}

func TestWorldOfOddEvents(t *testing.T) {
	for _, n := range randomTowns(24)[:8] {
		for _, e := range oddEvents() {
			if _, _, code := checkDo(t, n, n.world(), e); code < 20 {
				t.Fatalf("%+v: %d", e, code)
			}
		}
	}
}

// What an event does not use may be anything.
func TestWorldIgnores(t *testing.T) {
	base := withTown(func(n *town) { n.late = append(n.late, req(0, 0, 1, 2, 3, "n")) })
	w := base.world()
	for _, e := range []impl.Ev{syncEv, fallEv, giveEv(0), giveEv(2), giveEv(3), flushEv(0), dieEv(1), evictEv(2), writeEv(0, 0, "xy"), writeEv(0, 4, "x"), lockEv(1, 'w', 0, 6), readEv(0, 0, 5)} {
		want, wantText, wantCode := impl.WorldDo(w, e)
		for _, who := range append(badClients(), 0, 1, 2) {
			for _, s := range append(badSpans(), sp(0, 4), sp(8, 10)) {
				x := e
				x.Write = !e.Write && e.Kind != impl.EvLock || e.Write
				if e.Kind == impl.EvSync || e.Kind == impl.EvFall || e.Kind == impl.EvGive {
					x.Who = who
				}
				if e.Kind != impl.EvLock && e.Kind != impl.EvRead {
					x.Span = s
				}
				if e.Kind != impl.EvWrite {
					x.Data = "A b"
				}
				if e.Kind != impl.EvWrite && e.Kind != impl.EvGive {
					x.At = who
				}
				if got, text, code := impl.WorldDo(w, x); code != wantCode || text != wantText || !sameWorlds(got, want) {
					t.Fatalf("%+v: %+v %q %d, not %+v %q %d", x, got, text, code, want, wantText, wantCode)
				}
			}
		}
	}
}

// Where several checks fail, the first one gives the code.
func TestWorldOrderOfChecks(t *testing.T) {
	n := townOf(lay(2, 2), "abcd", drawn("wwww", strings.Repeat(".", 24)+strings.Repeat("w.", 12)), noted("", ""),
		noted("", strings.Repeat(".", 24)+strings.Repeat("d.", 12)))
	n.alive[0] = false
	w := n.world()
	for _, c := range []struct {
		name string
		e    impl.Ev
		code int
	}{
		{"no kind, no client", impl.Ev{Kind: 10, Who: 3}, 20},
		{"no kind, not connected", impl.Ev{Kind: 10, Who: 0, Span: sp(0, 4)}, 20},
		{"lock: no range, not connected", lockEv(0, 'w', 4, 4), 20},
		{"read: no range, not connected", readEv(0, 4, 4), 20},
		{"lock: not connected", lockEv(0, 'w', 0, 4), 21},
		{"read: not connected", readEv(0, 0, 4), 21},
		{"read: not connected, no lock", readEv(0, 6, 8), 21},
		{"write: not connected, no data", writeEv(0, 0, ""), 21},
		{"write: not connected, past the end", writeEv(0, 47, "ab"), 21},
		{"write: not connected", writeEv(0, 0, "a"), 21},
		{"flush: not connected", flushEv(0), 21},
		{"die: not connected", dieEv(0), 21},
		{"write: no data, no lock", writeEv(1, 0, ""), 20},
		{"write: no place, no lock", writeEv(1, 48, "a"), 20},
		{"write: no file, no lock", writeEv(1, 0, "A"), 20},
		{"write: no lock, one range too many", writeEv(1, 10, "a"), 23},
		{"lock: held, one range too many", lockEv(1, 'w', 2, 8), 22},
		{"lock: held, for reading", lockEv(1, 'r', 2, 8), 22},
		{"read: no lock", readEv(1, 0, 4), 23},
		{"lock: one range too many", lockEv(1, 'w', 6, 8), 24},
		{"evict: no client", evictEv(3), 20},
		{"give: nothing is late", giveEv(0), 20},
	} {
		t.Run(c.name, func(t *testing.T) { refuses(t, w, c.e, c.code) })
	}
}

// A reader's lock leaves the writer the right to read, and its bytes; what it wrote is written back.
func TestLockToReadWhatIsWritten(t *testing.T) {
	w := mustDo(t, impl.WorldNew(lay(2, 2)), lockEv(0, 'w', 0, 8), writeEv(0, 1, "abc"), writeEv(0, 5, "z"), lockEv(1, 'r', 0, 4))
	looks{drawn("rrrrwwww", "rrrr"), [3]notes{noted(".abc.z", ".hhh.d")}, ".abc"}.check(t, w)
	checkReqs(t, "kept", w.Kept, req(0, 0, 1, 0, 1, "a"), req(0, 0, 2, 1, 0, "bc"))
	if !slices.Equal(w.Store.Now, []string{".a", "bc", ""}) || !slices.Equal(w.Store.Last, []int{2, 0, 0}) || !slices.Equal(w.Store.Sure, make([]string, 3)) {
		t.Error(w.Store)
	}
	w = reads(t, w, 1, 0, 4, ".abc")
	w = reads(t, w, 0, 0, 6, ".abc.z")
	looks{drawn("rrrrwwww", "rrrr"), [3]notes{noted(".abc.z", "hhhhhd"), noted(".abc", "hhhh")}, ".abc"}.check(t, w)
	refuses(t, w, writeEv(0, 1, "x"), 23)
	refuses(t, w, writeEv(0, 3, "xy"), 23)
	refuses(t, w, readEv(1, 0, 5), 23)
	w = mustDo(t, w, writeEv(0, 4, "x"))
	if text := impl.WorldText(w); !strings.HasPrefix(text, ".abcxz..") {
		t.Error(text)
	}
}

// Nothing is left to the others in the range of a writer's lock, and all outside of it.
func TestLockToWriteWhatOthersHave(t *testing.T) {
	w := mustDo(t, impl.WorldNew(lay(2, 2)), lockEv(0, 'w', 0, 8), writeEv(0, 2, "abcd"), readEv(0, 0, 8), lockEv(1, 'w', 3, 5))
	looks{drawn("www..www", "...ww"), [3]notes{noted("..a..d..", "hhd..dhh")}, "...bc"}.check(t, w)
	checkReqs(t, "kept", w.Kept, req(0, 0, 1, 1, 1, "b"), req(0, 0, 2, 0, 2, "c"))
	refuses(t, w, readEv(0, 2, 4), 23)
	refuses(t, w, writeEv(0, 4, "x"), 23)
	refuses(t, w, readEv(0, 3, 5), 23)
	w = reads(t, w, 0, 5, 8, "d..")
	w = reads(t, w, 1, 3, 5, "bc")
	w = mustDo(t, w, writeEv(1, 4, "y"))
	if text := impl.WorldText(w); text[:8] != "..abyd.." {
		t.Error(text)
	}
	w = mustDo(t, w, lockEv(2, 'r', 0, 8))
	w = reads(t, w, 2, 0, 8, "..abyd..")
	looks{drawn("rrr..rrr", "...rr", "rrrrrrrr"),
		[3]notes{noted("..a..d..", "hhh..hhh"), noted("...by", "...hh"), noted("..abyd..", "hhhhhhhh")}, "..abyd.."}.check(t, w)
	checkReqs(t, "kept", w.Kept, req(0, 0, 1, 1, 1, "b"), req(0, 0, 2, 0, 2, "c"), req(0, 0, 3, 1, 0, "a"), req(0, 0, 4, 0, 3, "d"), req(1, 0, 1, 0, 2, "y"))
}

// What a client has itself does not bar its lock, and its modifications stay where they are.
func TestLockOfWhatTheClientHas(t *testing.T) {
	file := "abcdefgh"
	n := townOf(lay(2, 2), file, drawn("wwrr..w", "..rr"), noted(".x......", ".d......"), noted("..cd", "..hh"))
	w := n.world()
	looks{drawn("wwrrrrw", "..rr"), [3]notes{noted(".x", ".d"), noted("..cd", "..hh")}, file}.check(t, mustDo(t, w, lockEv(0, 'r', 0, 7)))
	looks{drawn("wwwwwww"), [3]notes{noted(".x", ".d")}, file}.check(t, mustDo(t, w, lockEv(0, 'w', 0, 7)))
	got, _, code := impl.WorldDo(w, lockEv(0, 'w', 0, 2))
	if code != 0 || !sameWorlds(got, w) {
		t.Error("a lock that the client has:", got, code)
	}
	looks{drawn("wwrr..w", "..rr", ".......wwwwwwwww"), n.caches, file}.check(t, mustDo(t, w, lockEv(2, 'w', 7, 16)))
	if got := mustDo(t, w, lockEv(0, 'w', 0, 7)); len(got.Kept) != 0 || impl.WorldText(got)[:8] != "axcdefgh" {
		t.Error(got)
	}
}

// Several clients bar a lock: they make way in order, each of them.
func TestLockThatSeveralBar(t *testing.T) {
	file := "abcdefgh"
	readers := worldOf(lay(2, 2), file, drawn("rrrr", "rrrrr"), noted("abcd", "hhhh"), noted(".bc.", ".hh."))
	w := mustDo(t, readers, lockEv(2, 'w', 1, 3))
	looks{drawn("r..r", "r..rr", ".ww"), [3]notes{noted("a..d", "h..h")}, file}.check(t, w)
	checkReqs(t, "kept of readers", w.Kept)
	w = mustDo(t, readers, lockEv(2, 'r', 0, 8))
	looks{drawn("rrrr", "rrrrr", "rrrrrrrr"), [3]notes{noted("abcd", "hhhh"), noted(".bc", ".hh")}, file}.check(t, w)

	writers := worldOf(lay(2, 2), file, drawn("rrww", "....ww", "......r"), noted("ab12", "hhdd"), noted("....34", "....dd"), noted("......g", "......h"))
	w = mustDo(t, writers, lockEv(2, 'r', 1, 6))
	looks{drawn("rrrr", "....rr", ".rrrrrr"), [3]notes{noted("ab12", "hhhh"), noted("....34", "....hh"), noted("......g", "......h")}, "ab1234gh"}.check(t, w)
	checkReqs(t, "kept of writers", w.Kept, req(0, 0, 1, 1, 0, "12"), req(1, 0, 1, 0, 2, "34"))
	w = mustDo(t, writers, lockEv(2, 'w', 1, 5))
	looks{drawn("r", ".....w", ".wwww.r"), [3]notes{noted("a", "h"), noted(".....4", ".....d"), noted("......g", "......h")}, "ab123fgh"}.check(t, w)
	checkReqs(t, "kept of writers that lose it", w.Kept, req(0, 0, 1, 1, 0, "12"), req(1, 0, 1, 0, 2, "3"))
	w = mustDo(t, writers, lockEv(1, 'w', 0, 7))
	looks{drawn("", "wwwwwww", ""), [3]notes{{}, noted("....34", "....dd")}, "ab12efgh"}.check(t, w)
}

// A client that is not connected bars a lock until it is evicted.
func TestLockOfOneThatDied(t *testing.T) {
	w := mustDo(t, impl.WorldNew(lay(2, 2)), lockEv(0, 'w', 0, 4), writeEv(0, 0, "ab"), lockEv(0, 'r', 6, 8), dieEv(0))
	for _, e := range []impl.Ev{lockEv(1, 'r', 0, 4), lockEv(1, 'w', 0, 4), lockEv(2, 'r', 3, 5), lockEv(2, 'w', 0, 1), lockEv(1, 'w', 7, 9), lockEv(1, 'r', 0, 48)} {
		refuses(t, w, e, 22)
	}
	looks{drawn("wwww..rr", "....rrrr"), [3]notes{}, ""}.check(t, mustDo(t, w, lockEv(1, 'r', 4, 8)))
	looks{drawn("wwww..rr", "....ww"), [3]notes{}, ""}.check(t, mustDo(t, w, lockEv(1, 'w', 4, 6)))
	w = mustDo(t, w, evictEv(0))
	looks{drawn("", "wwww"), [3]notes{}, ""}.check(t, mustDo(t, w, lockEv(1, 'w', 0, 4)))
	looks{drawn("", "rrrr"), [3]notes{}, ""}.check(t, mustDo(t, w, lockEv(1, 'r', 0, 4)))
	looks{drawn("wwww"), [3]notes{}, ""}.check(t, mustDo(t, w, lockEv(0, 'w', 0, 4)))

	// One that is connected stands in the way too, in front of the other one or behind it: it loses nothing.
	for dead := range 2 {
		n := townOf(lay(2, 2), "abcd", drawn("ww", "..ww"), noted("x", "d"), noted("...y", "...d"))
		n.alive[dead], n.caches[dead] = false, noted("", "")
		refuses(t, n.world(), lockEv(2, 'r', 0, 4), 22)
		refuses(t, n.world(), lockEv(2, 'w', 0, 4), 22)
	}
	// Even where that one could not make way.
	n := townOf(lay(2, 2), "abcd", drawn("ww", "..ww"), noted("x", "d"))
	n.alive[1], n.store.Last[0], n.store.SureLast[0] = false, 1000, 1000
	refuses(t, n.world(), lockEv(2, 'r', 0, 4), 22)
	refuses(t, n.world(), lockEv(2, 'r', 0, 2), 24)
}

// Each operation that a lock is made of may be the one that fails. Nothing has changed then, even if others came before it.
func TestLockThatIsFull(t *testing.T) {
	long := textOf(48, 1)
	combs, wides := func(c string) string { return strings.Repeat(c+".", 12) }, strings.Repeat("hddd", 12)
	all := strings.Repeat("w", 48)
	atEnd := func(n int) town {
		x := townOf(lay(2, 2), long, drawn("", all), noted("", ""), noted("123456", "dddddd"))
		x.store.Last[1], x.store.SureLast[1] = n, n
		return x
	}
	// Two writers, of which one can write back what it modified and the other one cannot.
	atEndOf := func(who int) town {
		x := townOf(lay(2, 2), long, drawn("ww", "..ww"), noted("12", "dd"), noted("..34", "..dd"))
		x.store.Last[who], x.store.SureLast[who] = 1000, 1000
		return x
	}
	kept, cached := cachedAt(long, strings.Repeat("rrr.", 12)), noted(long, strings.Repeat("h", 48))
	for _, c := range []struct {
		name string
		n    town
		e    impl.Ev
		code int
	}{
		{"give to read, a thirteenth range", townOf(lay(2, 2), long, drawn(combs("r"))), lockEv(0, 'r', 40, 41), 24},
		{"give to write, a thirteenth range", townOf(lay(2, 2), long, drawn(combs("w"))), lockEv(0, 'w', 40, 41), 24},
		{"give to write, a thirteenth range to read", townOf(lay(2, 2), long, drawn(strings.Repeat("rrr.", 12))), lockEv(0, 'w', 1, 2), 24},
		{"give to write, beside the twelfth range", townOf(lay(2, 2), long, drawn(combs("w"))), lockEv(0, 'w', 23, 24), 0},
		{"give after another one made way", townOf(lay(2, 2), long, drawn(combs("r"), strings.Repeat(".", 40)+"ww"), cachedAt(long, combs("r")), noted(strings.Repeat(".", 40)+"xy", strings.Repeat(".", 40)+"dd")), lockEv(0, 'r', 40, 42), 24},
		{"down, a thirteenth range to write", townOf(lay(2, 2), long, drawn("", strings.Repeat("www.", 12))), lockEv(0, 'r', 1, 2), 24},
		{"down, a thirteenth range to read", townOf(lay(2, 2), long, drawn("", combs("r")+strings.Repeat("w", 24))), lockEv(0, 'r', 30, 31), 24},
		{"down at the end of a range", townOf(lay(2, 2), long, drawn("", strings.Repeat("www.", 12))), lockEv(0, 'r', 0, 1), 0},
		{"drop, a thirteenth range to write", townOf(lay(2, 2), long, drawn("", strings.Repeat("www.", 12))), lockEv(0, 'w', 1, 2), 24},
		{"drop, a thirteenth range to read", townOf(lay(2, 2), long, drawn("", strings.Repeat("rrr.", 12))), lockEv(0, 'w', 1, 2), 24},
		{"drop of a cache, a thirteenth range", townOf(lay(2, 2), long, drawn("", all), noted("", ""), kept), lockEv(0, 'w', 1, 2), 24},
		{"drop of a cache, a thirteenth range, readers", townOf(lay(2, 2), long, drawn("", strings.Repeat("r", 48)), noted("", ""), kept), lockEv(0, 'w', 5, 6), 24},
		{"no drop of that cache for a reader", townOf(lay(2, 2), long, drawn("", all), noted("", ""), kept), lockEv(0, 'r', 1, 2), 0},
		{"drop of a cache, at the end of a range", townOf(lay(2, 2), long, drawn("", all), noted("", ""), kept), lockEv(0, 'w', 0, 1), 0},
		{"clean, a thirteenth range", townOf(lay(2, 2), long, drawn("", all), noted("", ""), dirtyAt(long, wides)), lockEv(0, 'r', 2, 3), 24},
		{"clean, a thirteenth range, for a writer", townOf(lay(2, 2), long, drawn("", all), noted("", ""), dirtyAt(long, wides)), lockEv(0, 'w', 2, 3), 24},
		{"clean at the end of a range", townOf(lay(2, 2), long, drawn("", all), noted("", ""), dirtyAt(long, wides)), lockEv(0, 'r', 1, 2), 0},
		{"the last number", atEnd(999), lockEv(0, 'r', 0, 2), 0},
		{"above the last number", atEnd(999), lockEv(0, 'r', 0, 3), 24},
		{"above the last number, for a writer", atEnd(999), lockEv(0, 'w', 0, 3), 24},
		{"above the last number at once", atEnd(1000), lockEv(0, 'w', 5, 7), 24},
		{"the last two numbers", atEnd(998), lockEv(0, 'w', 0, 4), 0},
		{"no modification at the last number", atEnd(1000), lockEv(0, 'w', 6, 9), 0},
		{"the second client is full", townOf(lay(2, 2), long, drawn(strings.Repeat("r", 48), strings.Repeat("r.", 11)+".."+strings.Repeat("r", 24)), cached, noted("", "")), lockEv(2, 'w', 30, 31), 24},
		{"the first client wrote back, the second one cannot", atEndOf(1), lockEv(2, 'r', 0, 4), 24},
		{"the first client wrote back, the second one cannot, for a writer", atEndOf(1), lockEv(2, 'w', 0, 4), 24},
		{"the first client cannot write back, the second one could", atEndOf(0), lockEv(2, 'r', 0, 4), 24},
		{"the one that can write back alone", atEndOf(1), lockEv(2, 'w', 0, 2), 0},
	} {
		t.Run(c.name, func(t *testing.T) {
			w := c.n.world()
			if !impl.WorldOk(w) {
				t.Fatal("not valid:", w)
			}
			if _, _, code := checkDo(t, c.n, w, c.e); code != c.code {
				t.Error(code)
			}
			if c.code >= 20 {
				refuses(t, w, c.e, c.code)
			}
		})
	}
}

// cachedAt is what is stored, wherever the other text has no point, as cached.
func cachedAt(s, other string) notes {
	return noted(onlyAt(s, other+strings.Repeat(".", 48-len(other))), strings.ReplaceAll(strings.ReplaceAll(other, "r", "h"), "w", "h"))
}

// dirtyAt is notes of what is stored, with points in place of what was modified.
func dirtyAt(s, has string) notes {
	n := noted(s, has)
	for i, c := range n.has {
		if c == 'd' {
			n.text[i] = '.'
		}
	}
	return n
}

func TestWorldReadEdges(t *testing.T) {
	long := "abcdefgh"
	locks := drawn("wwwwrrr.", ".......w")
	mixed := noted("..1d.f..", "..dh.h..")
	n := townOf(lay(2, 2), long, locks, mixed)
	for _, c := range []struct {
		name string
		who  int
		p    impl.Span
		want string
		has  notes
		code int
	}{
		{"modified, cached and neither", 0, sp(0, 7), "ab1defg", noted("ab1defg", "hhdhhhh"), 0},
		{"modified", 0, sp(2, 3), "1", mixed, 0},
		{"cached", 0, sp(3, 4), "d", mixed, 0},
		{"neither", 0, sp(4, 5), "e", noted("..1def", "..dhhh"), 0},
		{"modified and cached", 0, sp(2, 4), "1d", mixed, 0},
		{"neither and modified", 0, sp(0, 3), "ab1", noted("ab1d.f", "hhdh.h"), 0},
		{"to read and to write", 0, sp(3, 6), "def", noted("..1def", "..dhhh"), 0},
		{"one position without a lock, behind", 0, sp(0, 8), "", mixed, 23},
		{"without a lock", 0, sp(7, 8), "", mixed, 23},
		{"far from any lock", 0, sp(40, 48), "", mixed, 23},
		{"another client's range", 2, sp(7, 8), "", mixed, 23},
		{"a client without locks", 2, sp(0, 1), "", mixed, 23},
		{"an empty range", 0, sp(2, 2), "", mixed, 20},
		{"past the last position", 0, sp(0, 49), "", mixed, 20},
	} {
		got, text, code := impl.WorldDo(n.world(), readEv(c.who, c.p.Lo, c.p.Hi))
		want := n
		want.caches[0] = c.has
		if code != c.code || text != c.want || !sameWorlds(got, want.world()) {
			t.Errorf("%s: %q %d %+v", c.name, text, code, got)
		}
	}
	// Positions behind the ends of the objects.
	reads(t, worldOf(lay(3, 2), "abcd", drawn(strings.Repeat("r", 48))), 0, 2, 9, "cd.....")
	// One range too many, and as many as may be.
	text := textOf(48, 1)
	full := townOf(lay(2, 2), text, drawn(strings.Repeat("r", 48)), cachedAt(text, strings.Repeat("r.", 12)))
	refuses(t, full.world(), readEv(0, 40, 41), 24)
	reads(t, full.world(), 0, 23, 25, text[23:25])
	full.caches[0] = cachedAt(text, strings.Repeat("r.", 11))
	reads(t, full.world(), 0, 40, 41, text[40:41])
}

func TestWorldWriteEdges(t *testing.T) {
	long := "abcdefgh"
	n := townOf(lay(2, 2), long, drawn("wwwwrrw.", ".......w", "....rr"), noted("a.1", "h.d"))
	for _, c := range []struct {
		name string
		e    impl.Ev
		has  notes
		code int
	}{
		{"neither cached nor modified", writeEv(0, 1, "x"), noted("ax1", "hdd"), 0},
		{"cached", writeEv(0, 0, "x"), noted("x.1", "d.d"), 0},
		{"modified", writeEv(0, 2, "x"), noted("a.x", "h.d"), 0},
		{"all that the client may write", writeEv(0, 0, "wxyz"), noted("wxyz", "dddd"), 0},
		{"what is stored", writeEv(0, 0, "abcd"), noted("abcd", "dddd"), 0},
		{"a point", writeEv(0, 3, "."), noted("a.1.", "h.dd"), 0},
		{"one position to read alone, behind", writeEv(0, 3, "xy"), n.caches[0], 23},
		{"to read alone", writeEv(0, 4, "x"), n.caches[0], 23},
		{"over a range to read", writeEv(0, 3, "wxyz"), n.caches[0], 23},
		{"another client's range", writeEv(0, 7, "x"), n.caches[0], 23},
		{"one position of another client, behind", writeEv(0, 6, "xy"), n.caches[0], 23},
		{"a client that may read", writeEv(2, 4, "x"), n.caches[0], 23},
		{"all positions", writeEv(0, 0, textOf(48, 0)), n.caches[0], 23},
		{"the last position", writeEv(0, 47, "x"), n.caches[0], 23},
		{"past the last position", writeEv(0, 47, "xy"), n.caches[0], 20},
		{"behind the last position", writeEv(0, 48, "x"), n.caches[0], 20},
		{"no data", writeEv(0, 0, ""), n.caches[0], 20},
		{"no file", writeEv(0, 0, "xY"), n.caches[0], 20},
		{"a place below 0", writeEv(0, -1, "xy"), n.caches[0], 20},
		{"more than a file", writeEv(0, 0, textOf(49, 0)), n.caches[0], 20},
	} {
		got, text, code := impl.WorldDo(n.world(), c.e)
		want := n
		want.caches[0] = c.has
		if code != c.code || text != "" || !sameWorlds(got, want.world()) {
			t.Errorf("%s: %q %d %+v", c.name, text, code, got)
		}
	}
	all := strings.Repeat("w", 48)
	full := townOf(lay(2, 2), "", drawn(all), noted("", strings.Repeat("d.", 12)))
	refuses(t, full.world(), writeEv(0, 40, "x"), 24)
	mustDo(t, full.world(), writeEv(0, 23, "x"))
	have := townOf(lay(2, 2), "", drawn(all), noted("", strings.Repeat("h.", 12)))
	refuses(t, have.world(), writeEv(0, 40, "x"), 24)
	if w := mustDo(t, worldOf(lay(8, 3), "", drawn(all)), writeEv(0, 0, textOf(48, 4))); impl.WorldText(w) != textOf(48, 4) || impl.WorldFile(w) != strings.Repeat(".", 48) {
		t.Error(w)
	}
}

func TestFlushEdges(t *testing.T) {
	all := strings.Repeat("w", 48)
	long := textOf(48, 1)
	spread := noted("..1.23..456", "..dhdd..ddd")
	spread.text[3] = 'd'
	n := townOf(lay(2, 3), "abcdefgh", drawn(all[:12], "............w"), spread, noted("............x", "............d"))
	w := mustDo(t, n.world(), flushEv(0))
	spread.has = noted("", "..hhhh..hhh").has
	looks{n.locks, [3]notes{spread, n.caches[1]}, "ab1d23gh456"}.check(t, w)
	checkReqs(t, "kept", w.Kept, req(0, 0, 1, 1, 0, "1"), req(0, 0, 2, 2, 0, "23"), req(0, 0, 3, 1, 2, "45"), req(0, 0, 4, 2, 2, "6"))
	if got := mustDo(t, w, flushEv(0)); !sameWorlds(got, w) {
		t.Error("nothing is left to write back:", got)
	}
	if got := mustDo(t, w, flushEv(2)); !sameWorlds(got, w) {
		t.Error("a client that has nothing:", got)
	}
	for _, c := range []struct{ last, parts, code int }{
		{0, 24, 0}, {976, 24, 0}, {977, 24, 24}, {999, 1, 0}, {1000, 1, 24}, {999, 2, 24}, {998, 2, 0}, {1000, 0, 0}, {1000, 24, 24},
	} {
		n := townOf(lay(2, 2), long, drawn("", "", all))
		for i := range 2 * c.parts {
			n.caches[2].text[i], n.caches[2].has[i] = long[47-i], 'd'
		}
		n.store.Last[2], n.store.SureLast[2] = c.last, c.last
		_, w, code := checkDo(t, n, n.world(), flushEv(2))
		if code != c.code || code == 0 && w.Store.Last[2] != c.last+c.parts || code != 0 && !sameWorlds(w, n.world()) {
			t.Errorf("%d parts after %d: %d", c.parts, c.last, code)
		}
	}
}

// Where Dirty has twelve ranges, a write back may still be one of all of them.
func TestFlushOfTwelveRanges(t *testing.T) {
	long := textOf(48, 1)
	n := townOf(lay(2, 2), long, drawn(strings.Repeat("w", 48)), dirtyAt(long, strings.Repeat("hddd", 12)))
	w := mustDo(t, n.world(), flushEv(0))
	if len(w.Owns[0].Dirty) != 0 || len(w.Kept) != 24 || impl.WorldFile(w) != impl.WorldText(n.world()) {
		t.Error(w)
	}
}

// A write whose parts lie on several objects, written back: each part is a request of its own, and a crash loses none of them.
func TestWriteOnSeveralObjects(t *testing.T) {
	for _, c := range []struct {
		name string
		l    impl.Lay
		at   int
		data string
		kept []impl.Req
		now  []string
	}{
		{"two objects", lay(2, 2), 1, "abc", []impl.Req{req(0, 0, 1, 0, 1, "a"), req(0, 0, 2, 1, 0, "bc")}, []string{".a", "bc", ""}},
		{"two objects, the first of them twice", lay(2, 2), 1, "abcd", []impl.Req{req(0, 0, 1, 0, 1, "a"), req(0, 0, 2, 1, 0, "bc"), req(0, 0, 3, 0, 2, "d")}, []string{".ad", "bc", ""}},
		{"three objects", lay(1, 3), 4, "abc", []impl.Req{req(0, 0, 1, 1, 1, "a"), req(0, 0, 2, 2, 1, "b"), req(0, 0, 3, 0, 2, "c")}, []string{"..c", ".a", ".b"}},
		{"three objects, units of 8", lay(8, 3), 7, textOf(10, 0), []impl.Req{req(0, 0, 1, 0, 7, textOf(10, 0)[:1]), req(0, 0, 2, 1, 0, textOf(10, 0)[1:9]), req(0, 0, 3, 2, 0, textOf(10, 0)[9:])},
			[]string{"......." + textOf(10, 0)[:1], textOf(10, 0)[1:9], textOf(10, 0)[9:]}},
		{"one object, two units", lay(4, 1), 3, "ab", []impl.Req{req(0, 0, 1, 0, 3, "a"), req(0, 0, 2, 0, 4, "b")}, []string{"...ab", "", ""}},
		{"one unit", lay(4, 2), 4, "abcd", []impl.Req{req(0, 0, 1, 1, 0, "abcd")}, []string{"", "abcd", ""}},
		{"the last position", lay(2, 3), 47, "a", []impl.Req{req(0, 0, 1, 2, 15, "a")}, []string{"", "", strings.Repeat(".", 15) + "a"}},
	} {
		t.Run(c.name, func(t *testing.T) {
			end := c.at + len(c.data)
			w := mustDo(t, impl.WorldNew(c.l), lockEv(0, 'w', 0, 48), writeEv(0, c.at, c.data))
			if !slices.Equal(w.Store.Now, make([]string, 3)) || len(w.Kept) != 0 {
				t.Error("written back too soon:", w)
			}
			w = mustDo(t, w, flushEv(0))
			checkReqs(t, "kept", w.Kept, c.kept...)
			if !slices.Equal(w.Store.Now, c.now) || w.Store.Last[0] != len(c.kept) {
				t.Error(w.Store)
			}
			fallen := mustDo(t, w, fallEv)
			if !sameWorlds(fallen, w) {
				t.Error("a crash:", fallen)
			}
			synced := mustDo(t, w, syncEv)
			if !slices.Equal(synced.Store.Sure, c.now) || !slices.Equal(synced.Store.SureLast, w.Store.Last) || len(synced.Kept) != 0 || !slices.Equal(synced.Store.Now, c.now) {
				t.Error("synchronized:", synced)
			}
			if got := mustDo(t, synced, fallEv); !sameWorlds(got, synced) {
				t.Error("a crash after a synchronization:", got)
			}
			for _, w := range []impl.World{fallen, synced, mustDo(t, synced, fallEv)} {
				reads(t, mustDo(t, w, dieEv(0), evictEv(0), fallEv, lockEv(1, 'r', 0, 48)), 1, c.at, end, c.data)
			}
		})
	}
}

// A crash changes nothing, whatever was executed since the last synchronization, in any file system.
func TestExecutedRequestsSurviveCrash(t *testing.T) {
	with, without := 0, 0
	for _, n := range randomTowns(400) {
		if len(n.kept) > 0 {
			with++
		} else {
			without++
		}
		w := n.world()
		fallen, text, code := impl.WorldDo(w, fallEv)
		if code != 0 || text != "" || !sameWorlds(fallen, w) {
			t.Fatal(w, fallen, code)
		}
		synced := mustDo(t, w, syncEv)
		if len(synced.Kept) != 0 || !slices.Equal(synced.Store.Sure, w.Store.Now) || !slices.Equal(synced.Store.SureLast, w.Store.Last) {
			t.Fatal(w, synced)
		}
		want := cloneWorld(w)
		want.Kept, want.Store.Sure, want.Store.SureLast = nil, w.Store.Now, w.Store.Last
		if got := mustDo(t, synced, fallEv, fallEv); !sameWorlds(got, want) || !sameWorlds(synced, want) {
			t.Fatal(w, got)
		}
		for who := range 3 {
			evicted, _, code := impl.WorldDo(w, evictEv(who))
			if code != 0 {
				continue
			}
			if got := mustDo(t, evicted, fallEv); !sameWorlds(got, evicted) || impl.WorldFile(got) != impl.WorldFile(w) {
				t.Fatal(w, who, got)
			}
		}
	}
	if with < 50 || without < 50 {
		t.Error(with, without)
	}
}

// The epoch after which there is no other one.
func TestEvictAtLastEpochs(t *testing.T) {
	for _, alive := range []bool{true, false} {
		for _, dirty := range []bool{true, false} {
			for _, epoch := range []int{0, 1, 50, 98, 99, 100} {
				n := townOf(lay(2, 2), "abcd", drawn("wwww", "....w"), noted("a", "h"), noted("....y", "....d"))
				n.epochs[0], n.store.Floors[0] = epoch, epoch/2
				if dirty {
					n.caches[0] = noted("ax", "hd")
				}
				if !alive {
					n.alive[0], n.caches[0] = false, noted("", "")
				}
				want := 0
				if epoch == 100 {
					want = 24
					refuses(t, n.world(), evictEv(0), 24)
				}
				_, w, code := checkDo(t, n, n.world(), evictEv(0))
				if code != want {
					t.Error(alive, dirty, epoch, code)
				}
				if code != 0 {
					continue
				}
				if w.Epochs[0] != epoch+1 || w.Store.Floors[0] != epoch+1 || !w.Alive[0] || (len(w.Late) == 1) != (alive && dirty) {
					t.Error(alive, dirty, epoch, w)
				}
				looks{drawn("", "....w"), [3]notes{{}, n.caches[1]}, "abcd"}.check(t, w)
			}
		}
	}
}

// Of the requests of one who is evicted, as many become late as there are free places, and none of a number that is too great.
func TestEvictWithLateRequests(t *testing.T) {
	// Three parts, on both objects.
	cache := noted("12.3..4", "dd.d..d")
	asked := func(last int) []impl.Req {
		return []impl.Req{req(1, 7, last+1, 0, 0, "12"), req(1, 7, last+2, 1, 1, "3"), req(1, 7, last+3, 1, 2, "4")}
	}
	for last, most := range map[int]int{0: 3, 41: 3, 997: 3, 998: 2, 999: 1, 1000: 0} {
		for late := range 9 {
			n := townOf(lay(2, 2), "abcdefgh", drawn("", strings.Repeat("w", 48)), noted("", ""), cache)
			n.epochs, n.store.Floors = [3]int{4, 7, 0}, []int{4, 3, 0}
			n.store.Last[1], n.store.SureLast[1] = last, last
			for i := range late {
				n.late = append(n.late, req(0, 3, 1+i, 2, i, "q"))
			}
			w := mustDo(t, n.world(), evictEv(1))
			want := append(slices.Clone(n.late), asked(last)[:min(most, 8-late)]...)
			checkReqs(t, fmt.Sprint(last, " ", late), w.Late, want...)
			if w.Store.Last[1] != last || w.Epochs[1] != 8 || w.Store.Floors[1] != 8 || len(w.Kept) != 0 {
				t.Error(last, late, w)
			}
			looks{drawn(), [3]notes{}, "abcdefgh"}.check(t, w)
		}
	}
}

// An eviction first makes all durable that was executed, of all clients: the requests of the old epoch could not be replayed after it.
func TestEvictSynchronizes(t *testing.T) {
	w := mustDo(t, impl.WorldNew(lay(2, 2)), lockEv(0, 'w', 0, 4), writeEv(0, 0, "ab"), lockEv(1, 'w', 4, 8), writeEv(1, 4, "cd"),
		flushEv(0), flushEv(1), writeEv(0, 1, "x"), writeEv(1, 5, "yz"), evictEv(0))
	looks{drawn("", "....wwww"), [3]notes{{}, noted("....cyz", "....hdd")}, "ab..cd"}.check(t, w)
	checkReqs(t, "kept", w.Kept)
	checkReqs(t, "late", w.Late, req(0, 0, 2, 0, 1, "x"))
	want := impl.Store{Now: []string{"abcd", "", ""}, Sure: []string{"abcd", "", ""}, Last: []int{1, 1, 0}, SureLast: []int{1, 1, 0}, Floors: []int{1, 0, 0}}
	if !sameStores(w.Store, want) || !slices.Equal(w.Epochs, []int{1, 0, 0}) || !slices.Equal(w.Alive, []bool{true, true, true}) {
		t.Error(w)
	}
	w = mustDo(t, w, lockEv(0, 'w', 0, 2), writeEv(0, 0, "k"), flushEv(0), flushEv(1), fallEv)
	checkReqs(t, "kept later", w.Kept, req(0, 1, 2, 0, 0, "k"), req(1, 0, 2, 0, 3, "y"), req(1, 0, 3, 1, 2, "z"))
	if got, _, code := impl.WorldDo(w, giveEv(0)); code != 2 || impl.WorldFile(got)[:8] != "kb..cyz." {
		t.Error("the number is free, the epoch is over:", got, code)
	}
}

// What is lost with a client that dies is what it modified and did not write back, and nothing else.
func TestDieEdges(t *testing.T) {
	w := mustDo(t, impl.WorldNew(lay(2, 2)), lockEv(0, 'w', 0, 8), writeEv(0, 0, "abcd"), flushEv(0), writeEv(0, 2, "xyz"),
		lockEv(1, 'r', 3, 4), lockEv(2, 'w', 10, 12), writeEv(2, 10, "q"))
	if text := impl.WorldText(w); text[:12] != "abxyz.....q." {
		t.Error(text)
	}
	dead := mustDo(t, w, dieEv(0))
	want := cloneWorld(w)
	want.Alive[0], want.Owns[0] = false, impl.Own{Text: strings.Repeat(".", 48)}
	if !sameWorlds(dead, want) {
		t.Error(dead)
	}
	if text := impl.WorldText(dead); text[:12] != "abcy......q." || impl.WorldFile(dead)[:12] != "abcy........" {
		t.Error("y was written back when client 1 came, x and z were not:", text)
	}
	for _, e := range []impl.Ev{dieEv(0), flushEv(0), readEv(0, 0, 2), writeEv(0, 0, "a"), lockEv(0, 'r', 20, 22)} {
		refuses(t, dead, e, 21)
	}
	reads(t, dead, 1, 3, 4, "y")
	late := mustDo(t, dead, evictEv(0))
	checkReqs(t, "late after a death", late.Late)
	looks{drawn("", "...r", "..........ww"), [3]notes{{}, {}, noted("..........q", "..........d")}, "abcy"}.check(t, late)
	if !late.Alive[0] || late.Epochs[0] != 1 || late.Store.Floors[0] != 1 || len(late.Kept) != 0 {
		t.Error(late)
	}
	reads(t, mustDo(t, late, lockEv(0, 'r', 0, 8), fallEv), 0, 0, 8, "abcy....")
	for who := range 3 {
		gone := mustDo(t, impl.WorldNew(lay(1, 1)), dieEv(who))
		if gone.Alive[who] || !sameWorlds(mustDo(t, gone, syncEv, fallEv), gone) {
			t.Error(who, gone)
		}
	}
}

func TestGiveEdges(t *testing.T) {
	n := baseTown()
	n.late = nil
	for i := range 8 {
		n.late = append(n.late, req(i%2*2, i%2, 1+i*100, i%3, 2*i, textOf(3, i)))
	}
	w := n.world()
	for _, at := range []int{0, 1, 3, 6, 7} {
		want := cloneWorld(w)
		want.Late = slices.Delete(want.Late, at, at+1)
		if got, text, code := impl.WorldDo(w, giveEv(at)); code != 2 || text != "" || !sameWorlds(got, want) {
			t.Error(at, got, code)
		}
	}
	for _, at := range append(farNumbers(), 8, 9) {
		refuses(t, w, giveEv(at), 20)
	}
	one := cloneWorld(w)
	one.Late = one.Late[:1]
	refuses(t, one, giveEv(1), 20)
	none, _, code := impl.WorldDo(one, giveEv(0))
	if code != 2 || len(none.Late) != 0 {
		t.Error(none, code)
	}
	refuses(t, none, giveEv(0), 20)
	refuses(t, none, giveEv(-1), 20)
}

// Delayed requests, whichever of them comes first, change nothing but that they are late no more.
func TestDelayedRequestsChangeNothing(t *testing.T) {
	r := rand.New(rand.NewSource(47))
	given := 0
	for _, n := range randomTowns(300) {
		w := n.world()
		for len(w.Late) > 0 {
			at := r.Intn(len(w.Late))
			want := cloneWorld(w)
			want.Late = slices.Delete(want.Late, at, at+1)
			got, text, code := impl.WorldDo(w, giveEv(at))
			if code != impl.DoFenced || text != "" || !sameWorlds(got, want) || impl.WorldText(got) != impl.WorldText(w) {
				t.Fatal(w, at, got, code)
			}
			w, given = got, given+1
			if r.Intn(4) == 0 {
				w = mustDo(t, w, []impl.Ev{syncEv, fallEv}[r.Intn(2)])
			}
		}
	}
	if given < 300 {
		t.Error("hardly tested:", given)
	}
}

// The requests of an evicted client stay away, also when the client goes on in its new epoch and its numbers are free again.
func TestDelayedRequestsOfOneThatGoesOn(t *testing.T) {
	for _, l := range allLays() {
		w := mustDo(t, impl.WorldNew(l), lockEv(1, 'w', 0, 20), writeEv(1, 0, textOf(20, 0)), evictEv(1))
		sent := slices.Clone(w.Late)
		if len(sent) == 0 || len(sent) > 8 {
			t.Fatal(l, sent)
		}
		if impl.WorldText(w) != strings.Repeat(".", 48) {
			t.Fatal(l, impl.WorldText(w))
		}
		w = mustDo(t, w, lockEv(1, 'w', 0, 20), writeEv(1, 0, "abc"), flushEv(1))
		for i := range sent {
			got, _, code := impl.WorldDo(w, giveEv((len(sent)-i)/2))
			if code != 2 || !sameStores(got.Store, w.Store) || len(got.Late) != len(sent)-i-1 || impl.WorldText(got) != dotted("abc") {
				t.Fatal(l, i, got, code)
			}
			w = mustDo(t, got, fallEv)
		}
	}
}

// The example that the document gives, event by event.
func TestWorldExample(t *testing.T) {
	w := mustDo(t, impl.WorldNew(lay(2, 2)), lockEv(0, 'w', 0, 8), writeEv(0, 1, "abc"))
	looks{drawn("wwwwwwww"), [3]notes{noted(".abc", ".ddd")}, ""}.check(t, w)
	w = reads(t, mustDo(t, w, lockEv(1, 'r', 0, 4)), 1, 0, 4, ".abc")
	checkReqs(t, "kept", w.Kept, req(0, 0, 1, 0, 1, "a"), req(0, 0, 2, 1, 0, "bc"))
	w = mustDo(t, w, writeEv(0, 5, "z"))
	if text := impl.WorldText(w); text != dotted(".abc.z") {
		t.Error(text)
	}
	w = mustDo(t, w, evictEv(0))
	checkReqs(t, "late", w.Late, req(0, 0, 3, 0, 3, "z"))
	w, _, code := impl.WorldDo(w, giveEv(0))
	if text := impl.WorldText(w); code != 2 || text != dotted(".abc") || len(w.Late) != 0 {
		t.Error(code, text, w.Late)
	}
	looks{drawn("", "rrrr"), [3]notes{{}, noted(".abc", "hhhh")}, ".abc"}.check(t, w)
	w = mustDo(t, w, lockEv(2, 'w', 3, 6), dieEv(2))
	refuses(t, w, lockEv(0, 'w', 0, 4), 22)
	w = mustDo(t, w, evictEv(2), lockEv(0, 'w', 0, 4), fallEv)
	looks{drawn("wwww"), [3]notes{}, ".abc"}.check(t, w)
}

// teller knows what was written last at each position. It keeps no locks and no caches: where a client dies or is
// evicted, it asks which of that client's modifications were still only its own.
type teller struct{ text []byte }

func (k *teller) hear(before impl.World, e impl.Ev) {
	switch e.Kind {
	case impl.EvWrite:
		copy(k.text[e.At:], e.Data)
	case impl.EvDie, impl.EvEvict:
		file := impl.WorldFile(before)
		for i, dirty := range placesOf(before.Owns[e.Who].Dirty...) {
			if dirty {
				k.text[i] = file[i]
			}
		}
	}
}

// readers checks that every client that may read somewhere reads the same there.
func (k *teller) readers(t *testing.T, w impl.World) {
	t.Helper()
	for who, h := range w.Locks {
		for _, s := range slices.Concat(h.Read, h.Write) {
			got, text, code := impl.WorldDo(w, readEv(who, s.Lo, s.Hi))
			switch {
			case !w.Alive[who] && code == 21, code == 24:
			case code != 0 || text != string(k.text[s.Lo:s.Hi]) || impl.WorldText(got) != string(k.text):
				t.Fatalf("client %d reads %q %d at %v, not %q", who, text, code, s, k.text)
			}
		}
	}
}

// Whoever writes, makes way, dies or is evicted, and whatever falls or comes late: what is read is what was written last.
func TestAllClientsSeeOneFile(t *testing.T) {
	r := rand.New(rand.NewSource(49))
	many := map[string]int{}
	for range 40 {
		k := teller{text: []byte(strings.Repeat(".", 48))}
		n := newTown(allLays()[r.Intn(24)])
		w := impl.WorldNew(n.lay)
		for step := range 150 {
			n.locks, n.alive, n.late = boardOf(w.Locks), [3]bool(w.Alive), w.Late
			e := someEvent(r, n)
			next, text, code := impl.WorldDo(w, e)
			if code == 0 {
				k.hear(w, e)
			}
			if e.Kind == impl.EvRead && code == 0 && text != string(k.text[e.Span.Lo:e.Span.Hi]) {
				t.Fatalf("%+v: %q, not %q", e, text, k.text)
			}
			w = next
			if impl.WorldText(w) != string(k.text) || !impl.WorldOk(w) {
				t.Fatalf("%+v: %q, not %q in %+v", e, impl.WorldText(w), k.text, w)
			}
			if step%10 == 0 {
				k.readers(t, w)
			}
			many[fmt.Sprint(e.Kind, " ", code)]++
		}
		// When all have written back what they modified, the objects have it.
		for who := range 3 {
			w, _, _ = impl.WorldDo(w, flushEv(who))
		}
		if len(w.Owns[0].Dirty)+len(w.Owns[1].Dirty)+len(w.Owns[2].Dirty) == 0 && impl.WorldFile(w) != string(k.text) {
			t.Fatalf("%q, not %q in %+v", impl.WorldFile(w), k.text, w)
		}
	}
	for _, what := range []string{"1 0", "2 0", "3 0", "4 0", "5 0", "6 0", "7 0", "8 0", "9 2"} {
		if many[what] < 20 {
			t.Error("hardly tested:", what, many[what])
		}
	}
}

// The same client writes and another one reads, back and forth, over every range.
func TestOneWritesAnotherReads(t *testing.T) {
	for _, l := range []impl.Lay{lay(1, 1), lay(2, 3), lay(8, 2)} {
		w := impl.WorldNew(l)
		for i, s := range allSpans() {
			if i%3 != 0 {
				continue
			}
			data, writer := textOf(s.Hi-s.Lo, i), i%2
			w = mustDo(t, w, lockEv(writer, 'w', s.Lo, s.Hi), writeEv(writer, s.Lo, data))
			w = reads(t, mustDo(t, w, lockEv(1-writer, 'r', s.Lo, s.Hi)), 1-writer, s.Lo, s.Hi, data)
			w = reads(t, w, writer, s.Lo, s.Hi, data)
			switch {
			case w.Store.Last[writer] > 950:
				w = impl.WorldNew(l)
			case len(w.Kept) > 40:
				w = mustDo(t, w, syncEv)
			}
		}
	}
}

func TestWorldPlay(t *testing.T) {
	r := rand.New(rand.NewSource(51))
	for i := range 60 {
		n := newTown(allLays()[r.Intn(24)])
		var list []impl.Ev
		var want []int
		for range i {
			e := someEvent(r, n)
			var code int
			n, _, code = n.after(e)
			list, want = append(list, e), append(want, code)
		}
		keep := slices.Clone(list)
		if got, codes := impl.WorldPlay(n.lay, list); !slices.Equal(codes, want) || !sameWorlds(got, n.world()) || !slices.Equal(list, keep) {
			t.Fatalf("%+v: %+v %v, not %+v %v", list, got, codes, n.world(), want)
		}
	}
}

func TestWorldPlayEdges(t *testing.T) {
	l := lay(4, 2)
	if w, codes := impl.WorldPlay(l, nil); len(codes) != 0 || !sameWorlds(w, impl.WorldNew(l)) {
		t.Error("no events:", w, codes)
	}
	list := []impl.Ev{lockEv(2, 'w', 0, 48)}
	for len(list) < 70 {
		list = append(list, writeEv(2, len(list)%48, textOf(1, len(list))))
	}
	for _, many := range []int{1, 59, 60} {
		w, codes := impl.WorldPlay(l, list[:many])
		if len(codes) != many || !allFine(codes) || !sameWorlds(w, mustDo(t, impl.WorldNew(l), list[:many]...)) {
			t.Error(many, w, codes)
		}
	}
	for _, many := range []int{61, 62, 70} {
		if w, codes := impl.WorldPlay(l, list[:many]); len(codes) != 0 || !noWorld(w) {
			t.Error(many, w, codes)
		}
	}
	if w, codes := impl.WorldPlay(l, make([]impl.Ev, 60)); len(codes) != 60 || codes[0] != 20 || codes[59] != 20 || !sameWorlds(w, impl.WorldNew(l)) {
		t.Error("events of no kind:", w, codes)
	}
	if w, codes := impl.WorldPlay(l, make([]impl.Ev, 5000)); len(codes) != 0 || !noWorld(w) {
		t.Error("5000 events:", w, codes)
	}
	for _, bad := range badLays() {
		for _, many := range []int{0, 1, 60, 61} {
			if w, codes := impl.WorldPlay(bad, list[:many]); len(codes) != 0 || !noWorld(w) {
				t.Error(bad, many, w, codes)
			}
		}
	}
	// Every code of events that are refused is among the codes, in its place.
	_, codes := impl.WorldPlay(l, []impl.Ev{readEv(0, 0, 4), lockEv(0, 'w', 0, 4), {}, writeEv(0, 2, "ab"), dieEv(0), flushEv(0), lockEv(1, 'r', 0, 1), evictEv(0), giveEv(0), readEv(0, 0, 1)})
	if !slices.Equal(codes, []int{23, 0, 20, 0, 0, 21, 22, 0, 20, 23}) {
		t.Error(codes)
	}
	_, codes = impl.WorldPlay(l, []impl.Ev{lockEv(0, 'w', 0, 8), writeEv(0, 2, "abcd"), evictEv(0), giveEv(2), giveEv(1), giveEv(0), giveEv(0)})
	if !slices.Equal(codes, []int{0, 0, 0, 20, 2, 2, 20}) {
		t.Error(codes)
	}
}

// baseTown has something else in each place, so that places taken for one another are found.
func baseTown() town {
	n := newTown(lay(2, 3))
	n.store = impl.Store{
		Now: []string{"akcd", "epq", "g"}, Sure: []string{"abcd", "ef", "g"},
		Last: []int{5, 0, 999}, SureLast: []int{4, 0, 998}, Floors: []int{2, 0, 100},
	}
	n.kept = []impl.Req{req(0, 3, 5, 0, 1, "k"), req(2, 100, 999, 1, 1, "pq")}
	n.late = []impl.Req{req(0, 1, 7, 1, 2, "l"), req(2, 99, 1000, 2, 47, "m")}
	n.epochs, n.alive = [3]int{3, 0, 100}, [3]bool{true, true, false}
	// The stored file is akepg.cdq.
	n.locks = drawn("wwwwrr", "....rrww", "........ww")
	n.caches[0], n.caches[1] = noted("a12pg", "hddhh"), noted("....g.cz", "....hhhd")
	return n
}

func baseWorld() impl.World { return baseTown().world() }

// withWorld is baseWorld but for what f does.
func withWorld(f func(w *impl.World)) impl.World {
	w := baseWorld()
	f(&w)
	return w
}

// withTown is baseTown but for what f does.
func withTown(f func(n *town)) town {
	n := baseTown()
	f(&n)
	return n
}

// madeWorld is a file system with a name that says what was done to it.
type madeWorld struct {
	name string
	w    impl.World
}

// cacheOf makes a change of one client's cache.
func cacheOf(who int, text, has string) func(w *impl.World) {
	return func(w *impl.World) { w.Owns[who] = ownOf(noted(text, has)) }
}

// badWorlds are not valid, each for one reason as far as that can be, in each of its places.
func badWorlds() []madeWorld {
	out := []madeWorld{{"nothing", impl.World{}}}
	bad := func(name string, f func(w *impl.World)) { out = append(out, madeWorld{name, withWorld(f)}) }
	badParts(bad)
	badClientsOf(bad)
	badKept(bad)
	badLate(bad)
	badCaches(bad)
	return out
}

// badParts are of the first paragraph of WorldOk: the layout, the store, the lock table, and how many there are of each.
func badParts(bad func(string, func(w *impl.World))) {
	for _, l := range badLays() {
		bad(fmt.Sprint("layout ", l), func(w *impl.World) { w.Lay = l })
		bad(fmt.Sprint("layout and nothing else ", l), func(w *impl.World) { *w = impl.WorldNew(lay(1, 1)); w.Lay = l })
	}
	for i := range 3 {
		bad("an object that is no file", func(w *impl.World) { w.Store.Now[i] += "B" })
		bad("a durable object that is no file", func(w *impl.World) { w.Store.Sure[i] += "B" })
		bad("a number too great", func(w *impl.World) { w.Store.Last[i], w.Store.SureLast[i] = 1001, 1001 })
		bad("a number below 0", func(w *impl.World) { w.Store.Last[i], w.Store.SureLast[i] = -1, -1 })
		bad("a durable number that is greater", func(w *impl.World) { w.Store.SureLast[i] = w.Store.Last[i] + 1 })
		bad("a floor too high", func(w *impl.World) { w.Store.Floors[i], w.Epochs[i] = 101, 101 })
		bad("a floor below 0", func(w *impl.World) { w.Store.Floors[i] = -1 })
	}
	bad("two objects", func(w *impl.World) { w.Store.Now = w.Store.Now[:2] })
	bad("four objects", func(w *impl.World) { w.Store.Now, w.Store.Sure = append(w.Store.Now, ""), append(w.Store.Sure, "") })
	bad("two floors", func(w *impl.World) { w.Store.Floors = w.Store.Floors[:2] })
	bad("no store", func(w *impl.World) { w.Store = impl.Store{} })
	// Without caches, since these need locks that are valid.
	for _, table := range badTables() {
		bad(fmt.Sprint("locks and nothing else ", table), func(w *impl.World) { *w = impl.WorldNew(lay(2, 2)); w.Locks = table })
	}
	bad("two holds", func(w *impl.World) { w.Locks = w.Locks[:2] })
	bad("four holds", func(w *impl.World) { w.Locks = append(w.Locks, impl.Hold{}) })
	bad("no locks", func(w *impl.World) { w.Locks = nil })
	bad("a conflict", func(w *impl.World) { w.Locks[1].Read = append(w.Locks[1].Read, sp(9, 10)) })
	bad("ranges that touch", func(w *impl.World) { w.Locks[2].Write = []impl.Span{sp(8, 9), sp(9, 10)} })
	bad("a position in both lists", func(w *impl.World) { w.Locks[0].Read = []impl.Span{sp(3, 6)} })
	bad("two caches", func(w *impl.World) { w.Owns = w.Owns[:2] })
	bad("four caches", func(w *impl.World) { w.Owns = append(w.Owns, w.Owns[2]) })
	bad("no caches", func(w *impl.World) { w.Owns = nil })
	bad("two epochs", func(w *impl.World) { w.Epochs = w.Epochs[:2] })
	bad("four epochs", func(w *impl.World) { w.Epochs = append(w.Epochs, 0) })
	bad("no epochs", func(w *impl.World) { w.Epochs = nil })
	bad("two of Alive", func(w *impl.World) { w.Alive = w.Alive[:2] })
	bad("four of Alive", func(w *impl.World) { w.Alive = append(w.Alive, true) })
	bad("no Alive", func(w *impl.World) { w.Alive = nil })
	bad("nine late requests", func(w *impl.World) { w.Late = slices.Repeat(w.Late[:1], 9) })
	bad("a thousand late requests", func(w *impl.World) { w.Late = slices.Repeat(w.Late, 500) })
}

// badClientsOf are of the first paragraph too: what each client has.
func badClientsOf(bad func(string, func(w *impl.World))) {
	blank := strings.Repeat(".", 48)
	for who := range 3 {
		bad("no cache", func(w *impl.World) { w.Owns[who] = impl.Own{} })
		bad("a short cache", func(w *impl.World) { w.Owns[who] = impl.Own{Text: blank[:47]} })
		bad("a long cache", func(w *impl.World) { w.Owns[who] = impl.Own{Text: blank + "."} })
		bad("a byte that is not cached", func(w *impl.World) { w.Owns[who] = impl.Own{Text: blank[:47] + "a"} })
		bad("modified but not cached", func(w *impl.World) { w.Owns[who] = impl.Own{Text: blank, Dirty: []impl.Span{sp(2, 3)}} })
		for _, list := range badLists() {
			bad("no list of a cache", func(w *impl.World) { w.Owns[who] = impl.Own{Text: blank, Have: list} })
		}
		for _, epoch := range []int{-1, 101, 102, math.MinInt, math.MaxInt} {
			bad(fmt.Sprint("epoch ", epoch), func(w *impl.World) {
				w.Epochs[who] = epoch
				for i, q := range w.Kept {
					if q.Who == who {
						w.Kept[i].Epoch = epoch
					}
				}
			})
		}
	}
	// Client 1 has no request anywhere, so that its epoch matters in no other place.
	bad("an epoch of -1", func(w *impl.World) { w.Epochs[1] = -1 })
	bad("an epoch of 101", func(w *impl.World) { w.Epochs[1] = 101 })
	for _, floor := range []int{1, 2, 50, 100} {
		bad("an epoch below its floor", func(w *impl.World) { w.Epochs[1], w.Store.Floors[1] = floor-1, floor })
	}
	bad("a dead client with a cache", func(w *impl.World) { w.Alive[1] = false })
	bad("a dead client with one position", func(w *impl.World) { w.Alive[1] = false; cacheOf(1, "", ".....h")(w) })
	bad("a dead client with a modification", func(w *impl.World) { w.Alive[1] = false; cacheOf(1, "......c", "......d")(w) })
	bad("a dead client with one position to write", func(w *impl.World) { cacheOf(2, "", ".........h")(w) })
	bad("the other dead client with a cache", func(w *impl.World) { w.Alive[0] = false })
}

// badKept are of the second paragraph.
func badKept(bad func(string, func(w *impl.World))) {
	kept := func(name string, list ...impl.Req) {
		bad("kept: "+name, func(w *impl.World) { w.Kept = list })
	}
	a, b := baseWorld().Kept[0], baseWorld().Kept[1]
	kept("none")
	kept("the first one is missing", b)
	kept("the last one is missing", a)
	kept("sent again, behind", a, b, a)
	kept("sent again, at once", a, a, b)
	kept("too great a number", a, b, req(0, 3, 7, 0, 0, "x"))
	kept("fenced", a, b, req(0, 1, 6, 0, 0, "x"))
	kept("no client", a, b, req(3, 3, 6, 0, 0, "x"))
	kept("no client below 0", a, b, req(-1, 3, 6, 0, 0, "x"))
	kept("no data", a, b, req(0, 3, 6, 0, 0, ""))
	kept("no request", a, b, impl.Req{})
	kept("no request in front", impl.Req{}, a, b)
	kept("one more", a, b, req(0, 3, 6, 0, 0, "a"))
	kept("another byte", req(0, 3, 5, 0, 1, "j"), b)
	kept("another place", req(0, 3, 5, 0, 2, "k"), b)
	kept("a longer one", a, req(2, 100, 999, 1, 1, "pqr"))
	kept("another object", req(0, 3, 5, 1, 1, "k"), b)
	kept("an earlier epoch that is not over", req(0, 2, 5, 0, 1, "k"), b)
	kept("a later epoch", req(0, 4, 5, 0, 1, "k"), b)
	kept("another client's epoch", req(0, 100, 5, 0, 1, "k"), b)
	kept("another client", req(1, 3, 1, 0, 1, "k"), b)
	bad("an epoch that its request does not have", func(w *impl.World) { w.Epochs[0] = 4 })
	// Nothing of these is cached by anyone.
	bad("a byte more than was executed", func(w *impl.World) { w.Store.Now[2] = "g..x" })
	bad("a point more than was executed", func(w *impl.World) { w.Store.Now[2] += ".." })
	bad("a byte that was not executed", func(w *impl.World) { w.Store.Now[1] = "epr" })
	bad("a byte less than was executed", func(w *impl.World) { w.Store.Now[1] = "ep" })
	bad("a number that was not executed", func(w *impl.World) { w.Store.Last[1] = 1 })
	bad("a durable byte that was never there", func(w *impl.World) { w.Store.Sure[0] = "abce" })
	bad("a durable byte too many", func(w *impl.World) { w.Store.Sure[2] = "gx" })
	bad("a durable number too small", func(w *impl.World) { w.Store.SureLast[0] = 3 })
	bad("a durable number too great", func(w *impl.World) { w.Store.SureLast[0] = 5 })
	bad("durable already", func(w *impl.World) { w.Store = impl.StoreSync(w.Store) })
	bad("fallen", func(w *impl.World) { w.Store = impl.StoreFall(w.Store); w.Owns[0] = impl.WorldNew(w.Lay).Owns[0] })
}

// badLate are of the third paragraph.
func badLate(bad func(string, func(w *impl.World))) {
	for i := range 2 {
		late := func(name string, f func(q *impl.Req)) {
			bad(fmt.Sprint("late ", i, ": ", name), func(w *impl.World) { f(&w.Late[i]) })
		}
		for _, n := range badClients() {
			late("no client", func(q *impl.Req) { q.Who = n })
		}
		late("no epoch", func(q *impl.Req) { q.Epoch = -1 })
		late("no epoch far below", func(q *impl.Req) { q.Epoch = math.MinInt })
		late("no number", func(q *impl.Req) { q.Num = 0 })
		late("a number too great", func(q *impl.Req) { q.Num = 1001 })
		late("no object", func(q *impl.Req) { q.Obj = 3 })
		late("no object below 0", func(q *impl.Req) { q.Obj = -1 })
		late("no place", func(q *impl.Req) { q.At = 48 })
		late("no place below 0", func(q *impl.Req) { q.At = -1 })
		late("past the end", func(q *impl.Req) { q.At, q.Data = 47, "ab" })
		late("no data", func(q *impl.Req) { q.Data = "" })
		late("data that is no file", func(q *impl.Req) { q.Data = "A" })
		late("a client that was never fenced", func(q *impl.Req) { q.Who, q.Epoch = 1, 0 })
		late("no request", func(q *impl.Req) { *q = impl.Req{} })
		late("an epoch that is not over", func(q *impl.Req) { q.Epoch = []int{2, 100}[i] })
		late("the epoch of the client", func(q *impl.Req) { q.Epoch = []int{3, 100}[i] })
		late("an epoch to come", func(q *impl.Req) { q.Epoch = []int{100, 101}[i] })
	}
	bad("late: a floor that came down", func(w *impl.World) { w.Store.Floors[0] = 1 })
	bad("late: the eighth one", func(w *impl.World) {
		w.Late = append(slices.Repeat(w.Late[:1], 7), req(0, 2, 1, 0, 0, "a"))
	})
}

// badCaches are of the fourth paragraph.
func badCaches(bad func(string, func(w *impl.World))) {
	bad("cached without a lock", cacheOf(0, "a12pg.c", "hddhh.h"))
	bad("cached without a lock, a point", cacheOf(0, "a12pg..........", "hddhh.........h"))
	bad("cached without a lock, all positions", func(w *impl.World) { cacheOf(0, impl.WorldFile(*w), strings.Repeat("h", 48))(w) })
	bad("cached where another one writes", cacheOf(1, "...pg.cz", "...hhhhd"))
	bad("cached where a dead one writes", cacheOf(1, "....g.czq", "....hhhdh"))
	bad("modified with a lock to read", cacheOf(0, "a12pg", "hddhd"))
	bad("modified with a lock to read, another byte", cacheOf(0, "a12px", "hddhd"))
	bad("modified without a lock", cacheOf(0, "a12pg.x", "hddhh.d"))
	bad("modified with a lock to read, the other client", cacheOf(1, "....g.cz", "....hdhd"))
	bad("another byte than the stored one, the first", cacheOf(0, "b12pg", "hddhh"))
	bad("another byte than the stored one, beside what was modified", cacheOf(0, "a12fg", "hddhh"))
	bad("another byte than the stored one, to read", cacheOf(0, "a12p.", "hddhh"))
	bad("another byte than the stored one, a point", cacheOf(1, "....gxcz", "....hhhd"))
	bad("what was modified, as if it were clean", cacheOf(1, "....g.cz", "....hhhh"))
	bad("what was durable and is no more", cacheOf(0, "ab2pg", "hhdhh"))
	bad("no locks at all", func(w *impl.World) { w.Locks = make([]impl.Hold, 3) })
	bad("the first client's locks are gone", func(w *impl.World) { w.Locks[0] = impl.Hold{} })
	bad("locks to read alone", func(w *impl.World) { w.Locks[0] = impl.Hold{Read: []impl.Span{sp(0, 6)}} })
	bad("a lock that ends too soon", func(w *impl.World) { w.Locks[0].Read = nil })
	bad("locks of other clients", func(w *impl.World) { w.Locks[0], w.Locks[1] = w.Locks[1], w.Locks[0] })
	bad("caches of other clients", func(w *impl.World) { w.Owns[0], w.Owns[1] = w.Owns[1], w.Owns[0] })
	for _, l := range []impl.Lay{lay(1, 3), lay(3, 3), lay(2, 2), lay(2, 1)} {
		bad("another layout", func(w *impl.World) { w.Lay = l })
	}
}

func TestWorldOk(t *testing.T) {
	for _, n := range randomTowns(500) {
		if w := n.world(); !impl.WorldOk(w) {
			t.Errorf("not accepted: %+v", w)
		}
	}
	for _, bad := range badWorlds() {
		if impl.WorldOk(bad.w) {
			t.Errorf("accepted: %s: %+v", bad.name, bad.w)
		}
	}
}

// What is just not a fault.
func TestWorldOkEdges(t *testing.T) {
	for name, f := range map[string]func(w *impl.World){
		"as it is":                          func(w *impl.World) {},
		"eight late requests":               func(w *impl.World) { w.Late = slices.Repeat(w.Late, 4) },
		"no late requests":                  func(w *impl.World) { w.Late = nil },
		"epoch 100":                         func(w *impl.World) { w.Epochs[1] = 100 },
		"an epoch at its floor":             func(w *impl.World) { w.Epochs[1], w.Store.Floors[1] = 7, 7 },
		"the last epoch at its floor":       func(w *impl.World) { w.Epochs[1], w.Store.Floors[1] = 100, 100 },
		"synchronized":                      func(w *impl.World) { w.Store, w.Kept = impl.StoreSync(w.Store), nil },
		"a request sent in another order":   func(w *impl.World) { slices.Reverse(w.Kept) },
		"dead, with locks alone":            func(w *impl.World) { w.Alive[0] = false; cacheOf(0, "", "")(w) },
		"connected, with nothing cached":    func(w *impl.World) { w.Alive[2] = true },
		"all of what is locked":             cacheOf(0, "akepg.", "hhhhhh"),
		"all of what is to write, modified": cacheOf(0, "......", "dddd"),
		"modified to what is stored":        cacheOf(0, "ak", "hd"),
		"points that are stored":            cacheOf(1, ".....", ".....h"),
		"nothing is cached":                 func(w *impl.World) { cacheOf(0, "", "")(w); cacheOf(1, "", "")(w) },
		"late, just below the floor":        func(w *impl.World) { w.Late[0].Epoch = 1 },
		"late, far below the floor":         func(w *impl.World) { w.Late[0].Epoch = 0 },
		"late, the same twice":              func(w *impl.World) { w.Late[1] = w.Late[0] },
		"late, a number that was executed":  func(w *impl.World) { w.Late[0].Num = 5 },
		"late, a number to come":            func(w *impl.World) { w.Late[0].Num = 6 },
		"late, the greatest number":         func(w *impl.World) { w.Late[0].Num = 1000 },
		"late, an object beside the layout": func(w *impl.World) { w.Lay.Many = 3; w.Late[0].Obj = 2 },
		"an object longer than its share": func(w *impl.World) {
			w.Store.Now[2], w.Store.Sure[2] = "g"+textOf(47, 0), "g"+textOf(47, 0)
			cacheOf(1, "", "")(w)
		},
		"lists that are empty and not nil": func(w *impl.World) {
			w.Owns[2].Have, w.Owns[2].Dirty, w.Locks[2].Read = []impl.Span{}, []impl.Span{}, []impl.Span{}
		},
		"a request of which nothing is left": func(w *impl.World) {
			w.Kept = append([]impl.Req{req(0, 3, 4, 0, 1, "z")}, w.Kept...)
			w.Store.SureLast[0] = 3
		},
		"all are dead":                             func(w *impl.World) { w.Alive = make([]bool, 3); cacheOf(0, "", "")(w); cacheOf(1, "", "")(w) },
		"a lock to read where others read":         func(w *impl.World) { w.Locks[2].Read = []impl.Span{sp(4, 6)} },
		"a dead client's lock of all that is left": func(w *impl.World) { w.Locks[2].Write = []impl.Span{sp(8, 48)} },
	} {
		if w := withWorld(f); !impl.WorldOk(w) {
			t.Errorf("%s: %+v", name, w)
		}
	}
}

// Each function gives what the document states for a file system that is not valid, whatever the event is.
func TestWorldOfInvalidWorlds(t *testing.T) {
	events := []impl.Ev{
		lockEv(0, 'w', 0, 4), lockEv(1, 'r', 10, 12), readEv(0, 0, 1), writeEv(0, 0, "x"), flushEv(1), syncEv, fallEv, dieEv(0), evictEv(1), giveEv(0),
		{}, lockEv(3, 'w', 0, 4), readEv(0, 0, 49), writeEv(0, 0, ""), dieEv(2),
	}
	for _, bad := range badWorlds() {
		if text, file := impl.WorldText(bad.w), impl.WorldFile(bad.w); text != "" || file != "" {
			t.Fatal(bad.name, text, file)
		}
		for _, e := range events {
			if got, text, code := impl.WorldDo(bad.w, e); code != 20 || text != "" || !noWorld(got) {
				t.Fatalf("%s: %+v: %+v %q %d", bad.name, e, got, text, code)
			}
		}
	}
}

func TestWorldTextAndFile(t *testing.T) {
	w := baseWorld()
	if text, file := impl.WorldText(w), impl.WorldFile(w); text != dotted("a12pg.czq") || file != dotted("akepg.cdq") {
		t.Errorf("%q %q", text, file)
	}
	// A point that was written hides what is stored; a byte that is only cached does not show.
	w = withWorld(cacheOf(0, "a..pg", "hddhh"))
	if text, file := impl.WorldText(w), impl.WorldFile(w); text != dotted("a..pg.czq") || file != dotted("akepg.cdq") {
		t.Errorf("%q %q", text, file)
	}
	// Objects that are longer than their share, and one that the layout does not use.
	n := newTown(lay(8, 2))
	for i := range 3 {
		n.store.Now[i], n.store.Sure[i] = textOf(48, i), textOf(48, i)
	}
	if text, file := impl.WorldText(n.world()), impl.WorldFile(n.world()); text != n.file() || file != n.file() || file[8:16] != textOf(8, 1) || file[40:] != textOf(24, 1)[16:] {
		t.Errorf("%q %q", text, file)
	}
}

// sameCases are file systems that differ from baseWorld in one field alone.
func sameCases() []madeWorld {
	var out []madeWorld
	other := func(name string, f func(w *impl.World)) { out = append(out, madeWorld{name, withWorld(f)}) }
	other("Size", func(w *impl.World) { w.Lay.Size = 3 })
	other("Many", func(w *impl.World) { w.Lay.Many = 2 })
	other("Size and Many in each other's place", func(w *impl.World) { w.Lay = lay(3, 2) })
	other("Now", func(w *impl.World) { w.Store.Now[2] = "h" })
	other("Sure", func(w *impl.World) { w.Store.Sure[0] = "" })
	other("Last", func(w *impl.World) { w.Store.Last[1] = 1 })
	other("SureLast", func(w *impl.World) { w.Store.SureLast[2] = 997 })
	other("Floors", func(w *impl.World) { w.Store.Floors[1] = 1 })
	other("an object less", func(w *impl.World) { w.Store.Now = w.Store.Now[:2] })
	for who := range 3 {
		other("Read", func(w *impl.World) { w.Locks[who].Read = []impl.Span{sp(20, 21)} })
		other("Write", func(w *impl.World) { w.Locks[who].Write = append(w.Locks[who].Write, sp(20, 21)) })
		other("Text", func(w *impl.World) { w.Owns[who].Text = strings.Repeat("z", 48) })
		other("Have", func(w *impl.World) { w.Owns[who].Have = append(w.Owns[who].Have, sp(20, 21)) })
		other("Dirty", func(w *impl.World) { w.Owns[who].Dirty = append(w.Owns[who].Dirty, sp(20, 21)) })
		other("Epochs", func(w *impl.World) { w.Epochs[who]++ })
		other("Alive", func(w *impl.World) { w.Alive[who] = !w.Alive[who] })
	}
	other("a hold less", func(w *impl.World) { w.Locks = w.Locks[:2] })
	other("a hold more", func(w *impl.World) { w.Locks = append(w.Locks, impl.Hold{}) })
	other("a cache less", func(w *impl.World) { w.Owns = w.Owns[:2] })
	other("a cache more", func(w *impl.World) { w.Owns = append(w.Owns, impl.Own{}) })
	other("an epoch less", func(w *impl.World) { w.Epochs = w.Epochs[:2] })
	other("an epoch more", func(w *impl.World) { w.Epochs = append(w.Epochs, 0) })
	other("one less of Alive", func(w *impl.World) { w.Alive = w.Alive[:2] })
	other("one more of Alive", func(w *impl.World) { w.Alive = append(w.Alive, false) })
	for i := range 2 {
		for name, f := range map[string]func(q *impl.Req){
			"Who": func(q *impl.Req) { q.Who = 1 }, "Epoch": func(q *impl.Req) { q.Epoch++ }, "Num": func(q *impl.Req) { q.Num++ },
			"Obj": func(q *impl.Req) { q.Obj-- }, "At": func(q *impl.Req) { q.At++ }, "Data": func(q *impl.Req) { q.Data += "." },
		} {
			other(name+" of Kept", func(w *impl.World) { f(&w.Kept[i]) })
			other(name+" of Late", func(w *impl.World) { f(&w.Late[i]) })
		}
	}
	other("a request of Kept less", func(w *impl.World) { w.Kept = w.Kept[:1] })
	other("a request of Kept more", func(w *impl.World) { w.Kept = append(w.Kept, impl.Req{}) })
	other("no Kept", func(w *impl.World) { w.Kept = nil })
	other("Kept in another order", func(w *impl.World) { slices.Reverse(w.Kept) })
	other("a request of Late less", func(w *impl.World) { w.Late = w.Late[:1] })
	other("a request of Late more", func(w *impl.World) { w.Late = append(w.Late, impl.Req{}) })
	other("no Late", func(w *impl.World) { w.Late = nil })
	other("Late in another order", func(w *impl.World) { slices.Reverse(w.Late) })
	other("Kept and Late in each other's place", func(w *impl.World) { w.Kept, w.Late = w.Late, w.Kept })
	other("everything", func(w *impl.World) { *w = impl.World{} })
	return out
}

func TestWorldSame(t *testing.T) {
	if !impl.WorldSame(baseWorld(), baseWorld()) || !impl.WorldSame(baseWorld(), cloneWorld(baseWorld())) {
		t.Error("not itself")
	}
	for _, c := range sameCases() {
		if impl.WorldSame(baseWorld(), c.w) || impl.WorldSame(c.w, baseWorld()) {
			t.Error("the same:", c.name)
		}
		if !impl.WorldSame(c.w, cloneWorld(c.w)) {
			t.Error("not itself:", c.name)
		}
	}
	empty := impl.World{
		Store: impl.Store{Now: []string{}, Sure: []string{}, Last: []int{}, SureLast: []int{}, Floors: []int{}},
		Locks: []impl.Hold{}, Owns: []impl.Own{}, Epochs: []int{}, Alive: make([]bool, 0, 3), Kept: []impl.Req{}, Late: make([]impl.Req, 0, 8),
	}
	if !impl.WorldSame(impl.World{}, empty) || !impl.WorldSame(empty, impl.World{}) {
		t.Error("nothing, and nothing")
	}
}

func TestWorldSameOfAnyWorlds(t *testing.T) {
	var worlds []impl.World
	for _, bad := range badWorlds() {
		worlds = append(worlds, bad.w)
	}
	for _, n := range randomTowns(60) {
		worlds = append(worlds, n.world())
	}
	for i, a := range worlds {
		if !impl.WorldSame(a, cloneWorld(a)) {
			t.Error("not itself:", a)
		}
		for _, b := range worlds[max(0, i-30):i] {
			if got := impl.WorldSame(a, b); got != sameWorlds(a, b) {
				t.Error(a, b, got)
			}
		}
	}
}

// roomyList is the list with marks in the capacity behind its length, and a function that says whether it is still so.
func roomyList[T comparable](list []T, mark T) ([]T, func() bool) {
	full := append(slices.Clone(list), mark, mark)
	keep := slices.Clone(full)
	return full[:len(list)], func() bool { return slices.Equal(full, keep) }
}

// roomyWorld is the same of a file system.
func roomyWorld(w impl.World) (impl.World, func() bool) {
	var same [6]func() bool
	out := impl.World{Lay: w.Lay}
	out.Store, same[0] = roomyStore(w.Store)
	out.Locks, same[1] = roomy(w.Locks)
	out.Epochs, same[2] = roomyList(w.Epochs, -7)
	out.Alive, same[3] = roomyList(w.Alive, true)
	out.Kept, same[4] = roomyList(w.Kept, req(-7, -7, -7, -7, -7, "mark"))
	out.Late, same[5] = roomyList(w.Late, req(-7, -7, -7, -7, -7, "mark"))
	owns := make([]func() bool, len(w.Owns))
	for i, o := range w.Owns {
		o, owns[i] = roomyOwn(o)
		out.Owns = append(out.Owns, o)
	}
	out.Owns = append(out.Owns, impl.Own{Text: "mark"})
	keep := slices.Clone(out.Owns)
	all := out.Owns
	out.Owns = out.Owns[:len(w.Owns)]
	return out, func() bool {
		ok := slices.EqualFunc(all, keep, sameOwns)
		for _, f := range append(owns, same[:]...) {
			ok = f() && ok
		}
		return ok
	}
}

func fill[T any](list []T, v T) {
	for i := range list[:cap(list)] {
		list[:cap(list)][i] = v
	}
}

// spoilWorld writes into all memory of a file system, with its unused capacity, and says whether no two of its lists share any.
func spoilWorld(w impl.World) bool {
	var spans [][]impl.Span
	for _, h := range w.Locks {
		spans = append(spans, h.Read, h.Write)
	}
	for _, o := range w.Owns {
		spans = append(spans, o.Have, o.Dirty)
	}
	for i, list := range spans {
		fill(list, sp(-9, i))
	}
	reqs := [][]impl.Req{w.Kept, w.Late}
	for i, list := range reqs {
		fill(list, req(-9, i, 0, 0, 0, "spoiled"))
	}
	spoilStore(w.Store)
	ok := spoiled(w.Store)
	fill(w.Epochs, -9)
	ok = spoiled(w.Store) && ok
	fill(w.Alive, false)
	for i, list := range spans {
		ok = ok && !slices.ContainsFunc(list[:cap(list)], func(v impl.Span) bool { return v != sp(-9, i) })
	}
	for i, list := range reqs {
		ok = ok && !slices.ContainsFunc(list[:cap(list)], func(v impl.Req) bool { return v.Epoch != i })
	}
	fill(w.Locks, impl.Hold{})
	fill(w.Owns, impl.Own{})
	return ok
}

// Arguments stay as they are, beyond their length too, and a result is new memory, with its unused capacity,
// also where it is the file system that was given; no two lists of a result share memory.
func TestWorldMemory(t *testing.T) {
	r := rand.New(rand.NewSource(53))
	many := map[int]int{}
	for _, n := range randomTowns(120) {
		events := []impl.Ev{syncEv, fallEv, giveEv(0), giveEv(len(n.late) - 1), giveEv(len(n.late)), {}}
		for who := range 3 {
			events = append(events, evictEv(who), dieEv(who), flushEv(who), lockEv(who, 'w', 0, 48), lockEv(who, 'r', 3, 9), readEv(who, 1, 4))
		}
		for range 12 {
			events = append(events, someEvent(r, n))
		}
		for _, e := range events {
			w, same := roomyWorld(n.world())
			first, _, code := impl.WorldDo(w, e)
			second, _, _ := impl.WorldDo(w, e)
			keep := cloneWorld(second)
			if !spoilWorld(first) {
				t.Fatalf("%+v has lists that share memory: %+v", e, first)
			}
			if !same() {
				t.Fatalf("%+v changes its argument: %+v", e, w)
			}
			if !sameWorlds(second, keep) {
				t.Fatalf("%+v has memory of another result: %+v", e, second)
			}
			many[code]++
		}
	}
	for _, code := range []int{0, 2, 20, 21, 22, 23, 24} {
		if many[code] < 10 {
			t.Error("hardly tested:", code, many[code])
		}
	}
}

func TestWorldNewAndPlayMemory(t *testing.T) {
	l := lay(2, 2)
	list := []impl.Ev{lockEv(0, 'w', 0, 8), writeEv(0, 1, "abc"), readEv(0, 0, 8), flushEv(0), writeEv(0, 3, "z"), lockEv(1, 'r', 0, 2), evictEv(0), lockEv(2, 'w', 0, 1)}
	for name, f := range map[string]func() (impl.World, []int){
		"new":           func() (impl.World, []int) { return impl.WorldNew(l), nil },
		"play":          func() (impl.World, []int) { return impl.WorldPlay(l, list) },
		"play of none":  func() (impl.World, []int) { return impl.WorldPlay(l, nil) },
		"play, refused": func() (impl.World, []int) { return impl.WorldPlay(l, append(list[:len(list):len(list)], impl.Ev{})) },
	} {
		first, codes := f()
		second, others := f()
		keep, keepOthers := cloneWorld(second), slices.Clone(others)
		fill(codes, -9)
		if !spoilWorld(first) || slices.ContainsFunc(codes, func(c int) bool { return c != -9 }) {
			t.Error(name, "has lists that share memory:", first)
		}
		if !sameWorlds(second, keep) || !slices.Equal(others, keepOthers) || !impl.WorldOk(second) {
			t.Error(name, "has memory of another result:", second)
		}
	}
}

func TestWorldReadOnly(t *testing.T) {
	for _, n := range randomTowns(60) {
		w, same := roomyWorld(n.world())
		impl.WorldOk(w)
		impl.WorldText(w)
		impl.WorldFile(w)
		impl.WorldSame(w, baseWorld())
		impl.WorldSame(baseWorld(), w)
		if !same() || !sameWorlds(w, n.world()) {
			t.Fatal(w)
		}
	}
	for _, bad := range badWorlds() {
		w, same := roomyWorld(bad.w)
		impl.WorldOk(w)
		impl.WorldText(w)
		impl.WorldDo(w, flushEv(0))
		if !same() {
			t.Fatal(bad.name)
		}
	}
}

// What a call has started has ended when it returns: there are not more goroutines the more calls there were.
func TestWorldDoEnds(t *testing.T) {
	before := runtime.NumGoroutine()
	w := baseWorld()
	for range 200 {
		for _, e := range []impl.Ev{lockEv(1, 'w', 0, 4), lockEv(0, 'r', 8, 9), readEv(0, 0, 5), writeEv(0, 9, "x"), flushEv(0), syncEv, fallEv, dieEv(1), evictEv(1), evictEv(2), giveEv(0), {}} {
			impl.WorldDo(w, e)
		}
		impl.WorldDo(impl.World{}, syncEv)
		impl.WorldPlay(lay(2, 2), []impl.Ev{lockEv(0, 'w', 0, 4), writeEv(0, 0, "ab"), lockEv(1, 'r', 0, 4)})
	}
	checkEnded(t, before)
}

// Calls at the same time with the same arguments do not know of each other.
func TestWorldDoAtTheSameTime(t *testing.T) {
	w := baseWorld()
	events := []impl.Ev{lockEv(1, 'w', 0, 4), lockEv(1, 'r', 0, 8), readEv(0, 0, 5), writeEv(0, 0, "xyz"), flushEv(0), evictEv(0), giveEv(1)}
	for i := range 8 {
		t.Run(fmt.Sprint(i), func(t *testing.T) {
			t.Parallel()
			for range 20 {
				for _, e := range events {
					next, text, code := baseTown().after(e)
					if got, gotText, gotCode := impl.WorldDo(w, e); gotCode != code || gotText != text || !sameWorlds(got, next.world()) {
						t.Fatal(e, got, gotText, gotCode)
					}
				}
			}
		})
	}
}
