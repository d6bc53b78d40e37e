package tests

import (
	"fmt"
	"math/rand"
	"slices"
	"strings"
	"testing"

	"loop.example/pannage/impl"
)

// Promise 4: a position that one client may write is locked by no other client.

// board is what each client may do at each position, kept in the plainest way, to hold the results against: '.', 'r' or 'w'.
type board [impl.WhoMost][impl.SpanMost]byte

// drawn is a board of one line for each client, with '.' at the positions behind the end of a line.
func drawn(lines ...string) board {
	var b board
	for who := range b {
		line := strings.Repeat(".", impl.SpanMost)
		if who < len(lines) {
			line = lines[who] + line[len(lines[who]):]
		}
		copy(b[who][:], line)
	}
	return b
}

func boardOf(t []impl.Hold) board {
	b := drawn()
	for who, h := range t {
		for _, s := range h.Read {
			b.put(who, s, 'r')
		}
		for _, s := range h.Write {
			b.put(who, s, 'w')
		}
	}
	return b
}

func (b *board) put(who int, s impl.Span, c byte) {
	for i := s.Lo; i < s.Hi; i++ {
		b[who][i] = c
	}
}

// where has the positions at which the client has one of these.
func (b board) where(who int, these string) places {
	var p places
	for i, c := range b[who] {
		p[i] = strings.IndexByte(these, c) >= 0
	}
	return p
}

// table is the board as holds, and whether a table may have so many ranges.
func (b board) table() ([]impl.Hold, bool) {
	out, ok := make([]impl.Hold, len(b)), true
	for who := range b {
		out[who] = impl.Hold{Read: b.where(who, "r").ranges(), Write: b.where(who, "w").ranges()}
		ok = ok && len(out[who].Read) <= 12 && len(out[who].Write) <= 12
	}
	return out, ok
}

func (b board) may(who int, write bool, s impl.Span) bool {
	these := "rw"
	if write {
		these = "w"
	}
	return placesOf(s).each(b.where(who, these), cut).many() == 0
}

func (b board) bars(who int, write bool, s impl.Span) []int {
	these := "w"
	if write {
		these = "rw"
	}
	var out []int
	for other := range b {
		if other != who && placesOf(s).each(b.where(other, these), meet).many() > 0 {
			out = append(out, other)
		}
	}
	return out
}

// give does not ask whether somebody stands in the way.
func (b board) give(who int, write bool, s impl.Span) board {
	for i := s.Lo; i < s.Hi; i++ {
		switch {
		case write:
			b[who][i] = 'w'
		case b[who][i] == '.':
			b[who][i] = 'r'
		}
	}
	return b
}

func (b board) drop(who int, s impl.Span) board {
	b.put(who, s, '.')
	return b
}

func (b board) down(who int, s impl.Span) board {
	for i := s.Lo; i < s.Hi; i++ {
		if b[who][i] == 'w' {
			b[who][i] = 'r'
		}
	}
	return b
}

func sameHolds(a, b []impl.Hold) bool {
	return slices.EqualFunc(a, b, func(x, y impl.Hold) bool {
		return slices.Equal(x.Read, y.Read) && slices.Equal(x.Write, y.Write)
	})
}

// cloneHolds has lists without unused capacity.
func cloneHolds(t []impl.Hold) []impl.Hold {
	var out []impl.Hold
	for _, h := range t {
		out = append(out, impl.Hold{Read: slices.Clip(slices.Clone(h.Read)), Write: slices.Clip(slices.Clone(h.Write))})
	}
	return slices.Clip(out)
}

func holdsOf(b board) []impl.Hold {
	t, ok := b.table()
	if !ok {
		panic("a board of too many ranges")
	}
	return t
}

// longBoards have lists of 12 ranges, so that a position more or less is a range too many.
func longBoards() []board {
	rs, ws := strings.Repeat("r.", 12), strings.Repeat("w.", 12)
	return []board{
		drawn(rs), drawn(ws), drawn(strings.Repeat("rw", 12)), drawn(rs, rs, rs),
		drawn(rs + ws), drawn(ws, ".", strings.Repeat(".", 24)+ws),
		drawn(strings.Repeat("rrr.", 12)), drawn(strings.Repeat("www.", 12)), drawn(strings.Repeat("rrrw", 12)),
		drawn(strings.Repeat("rwww", 12)), drawn(strings.Repeat("rrr.", 12), strings.Repeat("rrr.", 12), strings.Repeat("...w", 12)),
	}
}

// randomBoards are tables that are valid, the same ones at each run.
func randomBoards(n int) []board {
	r := rand.New(rand.NewSource(11))
	out := append(longBoards(), drawn(), drawn(strings.Repeat("w", 48)), drawn(strings.Repeat("r", 48), strings.Repeat("r", 48), strings.Repeat("r", 48)))
	for len(out) < n {
		b, turn := drawn(), 1+r.Intn(12)
		var now [3]byte
		for i := range impl.SpanMost {
			if i == 0 || r.Intn(turn) == 0 {
				now = randomModes(r)
			}
			for who := range b {
				b[who][i] = now[who]
			}
		}
		if _, ok := b.table(); ok {
			out = append(out, b)
		}
	}
	return out
}

// randomModes is what the clients may have at one position.
func randomModes(r *rand.Rand) [3]byte {
	now := [3]byte{'.', '.', '.'}
	if r.Intn(2) == 0 {
		now[r.Intn(3)] = 'w'
		return now
	}
	for who := range now {
		if r.Intn(2) == 0 {
			now[who] = 'r'
		}
	}
	return now
}

// badTables are not valid, each for one reason, for three clients in turn where the reason is one client's.
func badTables() [][]impl.Hold {
	out := [][]impl.Hold{nil, {}, make([]impl.Hold, 1), make([]impl.Hold, 2), make([]impl.Hold, 4), make([]impl.Hold, 7)}
	one := []impl.Span{sp(4, 6)}
	with := func(who int, h impl.Hold, other impl.Hold) []impl.Hold {
		t := make([]impl.Hold, 3)
		t[who], t[(who+1)%3] = h, other
		return t
	}
	for who := range 3 {
		for _, bad := range badLists() {
			out = append(out, with(who, impl.Hold{Read: bad}, impl.Hold{}), with(who, impl.Hold{Write: bad}, impl.Hold{}))
		}
		for _, list := range [][]impl.Span{one, {sp(0, 5)}, {sp(5, 48)}, {sp(0, 1), sp(5, 6)}, {sp(0, 48)}} {
			out = append(out,
				with(who, impl.Hold{Read: one, Write: list}, impl.Hold{}),
				with(who, impl.Hold{Read: list, Write: one}, impl.Hold{}),
				with(who, impl.Hold{Write: one}, impl.Hold{Write: list}),
				with(who, impl.Hold{Write: one}, impl.Hold{Read: list}),
				with(who, impl.Hold{Read: one}, impl.Hold{Write: list}),
				with(who, impl.Hold{Write: list}, impl.Hold{Read: one}),
				with(who, impl.Hold{Read: list}, impl.Hold{Write: one}))
		}
	}
	// With too few or too many clients, though no position is in a conflict.
	full := append(holdsOf(drawn("ww", "..rr", "..rr..ww")), impl.Hold{})
	return append(out, full[:1], full[:2], full, append(full, impl.Hold{Read: one}))
}

// badClients do not exist.
func badClients() []int { return append(farNumbers(), 3, 4, 48) }

// lockFunc is one of the functions that give a table.
type lockFunc struct {
	name string
	f    func(t []impl.Hold, who int, s impl.Span) ([]impl.Hold, bool)
}

func lockFuncs() []lockFunc {
	return []lockFunc{
		{"give to read", func(t []impl.Hold, who int, s impl.Span) ([]impl.Hold, bool) { return impl.LockGive(t, who, false, s) }},
		{"give to write", func(t []impl.Hold, who int, s impl.Span) ([]impl.Hold, bool) { return impl.LockGive(t, who, true, s) }},
		{"drop", impl.LockDrop},
		{"down", impl.LockDown},
	}
}

// Two positions side by side, with everything that three clients may have there, valid or not.
func TestLockOkOfTwoPositions(t *testing.T) {
	for _, at := range []int{0, 23, 46} {
		good := 0
		for n := range 4096 {
			table := make([]impl.Hold, 3)
			want := true
			for i := range 2 {
				writers, others := 0, 0
				for who := range 3 {
					has := n >> (6*i + 2*who) & 3
					if has&1 != 0 {
						table[who].Read = impl.SpansAdd(table[who].Read, sp(at+i, at+i+1))
					}
					if has&2 != 0 {
						table[who].Write = impl.SpansAdd(table[who].Write, sp(at+i, at+i+1))
						writers++
					}
					if has != 0 {
						others++
					}
					want = want && has != 3
				}
				want = want && (writers == 0 || others == 1)
			}
			if got := impl.LockOk(table); got != want {
				t.Fatal(table, got)
			}
			if want {
				good++
			}
		}
		if good != 121 { // 8 sets of readers and 3 writers at each position
			t.Error(at, good)
		}
	}
}

func TestLockOk(t *testing.T) {
	for _, b := range randomBoards(2000) {
		if table := holdsOf(b); !impl.LockOk(table) {
			t.Error("not accepted:", table)
		}
	}
	empty := make([]impl.Hold, 3)
	if !impl.LockOk(empty) {
		t.Error("no lock at all")
	}
	empty[1] = impl.Hold{Read: []impl.Span{}, Write: []impl.Span{}}
	if !impl.LockOk(empty) {
		t.Error("no lock at all, with empty lists")
	}
	for _, bad := range badTables() {
		if impl.LockOk(bad) {
			t.Error("accepted:", bad)
		}
	}
}

// Each pair of short ranges at the start and at the end, for one client and for two.
func TestLockOkOfTwoRanges(t *testing.T) {
	spans := slices.DeleteFunc(allSpans(), func(s impl.Span) bool { return s.Hi > 8 && s.Lo < 40 })
	for _, x := range spans {
		for _, y := range spans {
			xs, ys := []impl.Span{x}, []impl.Span{y}
			apart := x.Hi <= y.Lo || y.Hi <= x.Lo
			if got := impl.LockOk([]impl.Hold{{}, {Read: xs, Write: ys}, {}}); got != apart {
				t.Fatal("one client", x, y, got)
			}
			if got := impl.LockOk([]impl.Hold{{Write: xs}, {}, {Read: ys}}); got != apart {
				t.Fatal("write and read", x, y, got)
			}
			if got := impl.LockOk([]impl.Hold{{}, {Write: xs}, {Write: ys}}); got != apart {
				t.Fatal("write and write", x, y, got)
			}
			if !impl.LockOk([]impl.Hold{{Read: xs}, {Read: ys}, {}}) {
				t.Fatal("read and read", x, y)
			}
		}
	}
}

func TestLockMayAndBarsAgainstBoard(t *testing.T) {
	r := rand.New(rand.NewSource(3))
	spans := allSpans()
	for _, b := range randomBoards(150) {
		table := holdsOf(b)
		for range 100 {
			s := spans[r.Intn(len(spans))]
			for who := range 3 {
				for _, write := range []bool{false, true} {
					if got, want := impl.LockMay(table, who, write, s), b.may(who, write, s); got != want {
						t.Fatal("may", table, who, write, s, got)
					}
					if got, want := impl.LockBars(table, who, write, s), b.bars(who, write, s); !slices.Equal(got, want) {
						t.Fatal("bars", table, who, write, s, got, want)
					}
				}
			}
		}
	}
}

func TestLockMayEdges(t *testing.T) {
	for _, c := range []struct {
		name  string
		b     board
		who   int
		write bool
		s     impl.Span
		want  bool
	}{
		{"reads what it may read", drawn("..rrrr"), 0, false, sp(2, 6), true},
		{"writes what it may read", drawn("..rrrr"), 0, true, sp(2, 6), false},
		{"reads what it may write", drawn("..wwww"), 0, false, sp(2, 6), true},
		{"writes what it may write", drawn("..wwww"), 0, true, sp(2, 6), true},
		{"reads what it may write half", drawn("..rrww"), 0, false, sp(2, 6), true},
		{"writes what it may write half", drawn("..rrww"), 0, true, sp(2, 6), false},
		{"writes what it may write half, the first half", drawn("..wwrr"), 0, true, sp(2, 6), false},
		{"writes the half that it may write", drawn("..rrww"), 0, true, sp(4, 6), true},
		{"reads by turns", drawn("rwrwrw"), 0, false, sp(0, 6), true},
		{"reads with one position missing", drawn("rrr.rr"), 0, false, sp(0, 6), false},
		{"writes with one position missing", drawn("www.ww"), 0, true, sp(0, 6), false},
		{"writes with one position to read", drawn("wwwrww"), 0, true, sp(0, 6), false},
		{"reads one position too many, at the start", drawn("..rrrr"), 0, false, sp(1, 6), false},
		{"reads one position too many, at the end", drawn("..rrrr"), 0, false, sp(2, 7), false},
		{"writes one position too many, at the end", drawn("..wwww"), 0, true, sp(2, 7), false},
		{"reads nothing of it", drawn("rr"), 0, false, sp(2, 4), false},
		{"reads what another may read", drawn("", "rrrr"), 0, false, sp(0, 4), false},
		{"reads what another may write", drawn("", "wwww"), 0, false, sp(0, 4), false},
		{"the last client", drawn("", "", "wwww"), 2, true, sp(0, 4), true},
		{"everything", drawn(strings.Repeat("w", 48)), 0, true, sp(0, 48), true},
		{"the last position", drawn(strings.Repeat(".", 47) + "r"), 0, false, sp(47, 48), true},
		{"past the last position", drawn(strings.Repeat("w", 48)), 0, false, sp(0, 49), false},
		{"an empty range", drawn(strings.Repeat("w", 48)), 0, false, sp(4, 4), false},
		{"a negative client", drawn(strings.Repeat("w", 48)), -1, false, sp(0, 4), false},
		{"client 3", drawn("rr", "rr", "rr"), 3, false, sp(0, 2), false},
	} {
		if got := impl.LockMay(holdsOf(c.b), c.who, c.write, c.s); got != c.want {
			t.Errorf("%s: %v", c.name, got)
		}
	}
}

func TestLockBarsEdges(t *testing.T) {
	for _, c := range []struct {
		name  string
		b     board
		who   int
		write bool
		s     impl.Span
		want  []int
	}{
		{"nobody", drawn(), 0, true, sp(0, 48), nil},
		{"two readers of one position", drawn("r", ""), 1, false, sp(0, 1), nil},
		{"a reader, to write", drawn("r", ""), 1, true, sp(0, 1), []int{0}},
		{"a writer, to read", drawn("w", ""), 1, false, sp(0, 1), []int{0}},
		{"a writer, to write", drawn("w", ""), 1, true, sp(0, 1), []int{0}},
		{"two readers, to write", drawn("rrrr", "", "rrrr"), 1, true, sp(1, 2), []int{0, 2}},
		{"two writers, to read", drawn("", "ww", "..ww"), 0, false, sp(0, 4), []int{1, 2}},
		{"two writers, to read, the later one first", drawn("", "..ww", "ww"), 0, false, sp(0, 4), []int{1, 2}},
		{"the client itself reads and is to write", drawn("rrrr"), 0, true, sp(0, 4), nil},
		{"the client itself and another read, to write", drawn("rrrr", "rrrr"), 0, true, sp(0, 4), []int{1}},
		{"the client itself writes", drawn("wwww"), 0, true, sp(0, 4), nil},
		{"the client itself writes half of it", drawn("rrww"), 0, true, sp(0, 4), nil},
		{"the first position alone", drawn("", "...w"), 0, false, sp(3, 9), []int{1}},
		{"the last position alone", drawn("", strings.Repeat(".", 8)+"w"), 0, false, sp(3, 9), []int{1}},
		{"one position before", drawn("", "..w"), 0, true, sp(3, 9), nil},
		{"one position behind", drawn("", strings.Repeat(".", 9)+"w"), 0, true, sp(3, 9), nil},
		{"one position in the middle", drawn("", "", "....r"), 0, true, sp(3, 9), []int{2}},
		{"position 47", drawn("", strings.Repeat(".", 47)+"r"), 0, true, sp(0, 48), []int{1}},
		{"reads and writes there", drawn("", "rwrw"), 0, true, sp(0, 4), []int{1}},
		{"writes one position of what it reads", drawn("", "rwrr"), 0, false, sp(0, 4), []int{1}},
		{"writes none of it", drawn("", "rwrr"), 0, false, sp(2, 4), nil},
		{"past the last position", drawn("w"), 1, true, sp(0, 49), nil},
		{"an empty range", drawn("wwww"), 1, true, sp(2, 2), nil},
		{"a range that is turned round", drawn("wwww"), 1, true, sp(3, 1), nil},
		{"a negative client", drawn("wwww"), -1, true, sp(0, 4), nil},
		{"client 3", drawn("wwww"), 3, true, sp(0, 4), nil},
	} {
		if got := impl.LockBars(holdsOf(c.b), c.who, c.write, c.s); !slices.Equal(got, c.want) {
			t.Errorf("%s: %v, not %v", c.name, got, c.want)
		}
	}
}

// checkTable compares with the board, or with the table as it was.
func checkTable(t *testing.T, what string, old board, new board, barred bool, got []impl.Hold, ok bool) bool {
	t.Helper()
	want, wantOk := new.table()
	if !wantOk || barred {
		want, wantOk = holdsOf(old), false
	}
	if !sameHolds(got, want) || ok != wantOk {
		t.Fatalf("%s of %v: %v %v, not %v %v", what, holdsOf(old), got, ok, want, wantOk)
	}
	return ok
}

func TestLockChangesAgainstBoard(t *testing.T) {
	r := rand.New(rand.NewSource(5))
	spans := allSpans()
	many := map[string]int{}
	count := func(what string, ok bool) {
		many[fmt.Sprint(what, " ", ok)]++
	}
	for i, b := range randomBoards(200) {
		table := holdsOf(b)
		rounds := 100
		if i < len(longBoards()) {
			rounds = 500
		}
		for range rounds {
			s, who := spans[r.Intn(len(spans))], r.Intn(3)
			if r.Intn(2) == 0 {
				s.Hi = min(s.Hi, s.Lo+1+r.Intn(3))
			}
			for _, write := range []bool{false, true} {
				barred := len(b.bars(who, write, s)) > 0
				got, ok := impl.LockGive(table, who, write, s)
				what := fmt.Sprintf("give %d %v %v", who, write, s)
				count(fmt.Sprint("give, barred ", barred, ", to write ", write), checkTable(t, what, b, b.give(who, write, s), barred, got, ok))
			}
			got, ok := impl.LockDrop(table, who, s)
			count("drop", checkTable(t, fmt.Sprintf("drop %d %v", who, s), b, b.drop(who, s), false, got, ok))
			got, ok = impl.LockDown(table, who, s)
			count("down", checkTable(t, fmt.Sprintf("down %d %v", who, s), b, b.down(who, s), false, got, ok))
		}
		for who := range 3 {
			got, ok := impl.LockOff(table, who)
			count("off", checkTable(t, fmt.Sprintf("off %d", who), b, b.drop(who, sp(0, 48)), false, got, ok))
		}
	}
	for _, what := range []string{
		"give, barred false, to write false true", "give, barred false, to write false false", "give, barred true, to write false false",
		"give, barred false, to write true true", "give, barred false, to write true false", "give, barred true, to write true false",
		"drop true", "drop false", "down true", "down false", "off true",
	} {
		if many[what] < 10 {
			t.Error("too seldom:", what, many[what])
		}
	}
}

// A table stays valid, and says what the board says, over many steps.
func TestLockSteps(t *testing.T) {
	r := rand.New(rand.NewSource(6))
	spans := allSpans()
	for range 25 {
		b, table := drawn(), make([]impl.Hold, 3)
		for range 100 {
			s, who, write := spans[r.Intn(len(spans))], r.Intn(3), r.Intn(2) == 0
			s.Hi = min(s.Hi, s.Lo+1+r.Intn(10))
			var ok bool
			var next board
			switch r.Intn(9) {
			case 0:
				table, ok = impl.LockDrop(table, who, s)
				next = b.drop(who, s)
			case 1, 2:
				table, ok = impl.LockDown(table, who, s)
				next = b.down(who, s)
			case 3:
				if r.Intn(5) > 0 {
					continue
				}
				table, ok = impl.LockOff(table, who)
				next = b.drop(who, sp(0, 48))
			default:
				free := len(b.bars(who, write, s)) == 0
				table, ok = impl.LockGive(table, who, write, s)
				next = b.give(who, write, s)
				if ok && !free {
					t.Fatal("given in spite of", b.bars(who, write, s))
				}
			}
			if ok {
				b = next
			}
			if !impl.LockOk(table) || !sameHolds(table, holdsOf(b)) {
				t.Fatal(table, holdsOf(b))
			}
			for i := range impl.SpanMost {
				checkOneWriter(t, table, i)
			}
		}
	}
}

func checkOneWriter(t *testing.T, table []impl.Hold, at int) {
	t.Helper()
	writers, users := 0, 0
	for who := range 3 {
		if impl.LockMay(table, who, true, sp(at, at+1)) {
			writers++
		}
		if impl.LockMay(table, who, false, sp(at, at+1)) {
			users++
		}
	}
	if writers > 1 || writers == 1 && users > 1 {
		t.Fatal(table, at, writers, users)
	}
}

func TestLockGiveEdges(t *testing.T) {
	rs, ws := strings.Repeat("r.", 12), strings.Repeat("w.", 12)
	for _, c := range []struct {
		name  string
		b     board
		who   int
		write bool
		s     impl.Span
		want  board
		ok    bool
	}{
		{"to read", drawn(), 1, false, sp(2, 4), drawn("", "..rr"), true},
		{"to write", drawn(), 2, true, sp(2, 4), drawn("", "", "..ww"), true},
		{"everything", drawn(), 0, true, sp(0, 48), drawn(strings.Repeat("w", 48)), true},
		{"the last position", drawn("rr"), 0, false, sp(47, 48), drawn("rr" + strings.Repeat(".", 45) + "r"), true},
		{"reads and is to write", drawn("..rrrr"), 0, true, sp(2, 6), drawn("..wwww"), true},
		{"reads and is to write a part", drawn("..rrrr"), 0, true, sp(3, 5), drawn("..rwwr"), true},
		{"reads a part and is to write more", drawn("..rr"), 0, true, sp(1, 5), drawn(".wwww"), true},
		{"writes half of what it is to read", drawn("..ww"), 0, false, sp(2, 6), drawn("..wwrr"), true},
		{"writes half of what it is to read, the other half", drawn("....ww"), 0, false, sp(2, 6), drawn("..rrww"), true},
		{"writes half of what it is to write", drawn("..ww"), 0, true, sp(2, 6), drawn("..wwww"), true},
		{"writes and reads half each, to write", drawn("..wwrr"), 0, true, sp(2, 6), drawn("..wwww"), true},
		{"writes the middle of what it is to read", drawn("..ww"), 0, false, sp(0, 6), drawn("rrwwrr"), true},
		{"reads on either side of what it is to read", drawn("rr..rr"), 0, false, sp(2, 4), drawn("rrrrrr"), true},
		{"has it already, to read", drawn("rrrr"), 0, false, sp(1, 3), drawn("rrrr"), true},
		{"has it already, to write", drawn("wwww"), 0, true, sp(1, 3), drawn("wwww"), true},
		{"writes what it is to read", drawn("wwww"), 0, false, sp(1, 3), drawn("wwww"), true},
		{"writes and reads all of what it is to read", drawn("rwwr"), 0, false, sp(0, 4), drawn("rwwr"), true},
		{"two readers of one position", drawn("r"), 1, false, sp(0, 1), drawn("r", "r"), true},
		{"three readers of one position", drawn("r", "r"), 2, false, sp(0, 1), drawn("r", "r", "r"), true},
		{"beside a writer", drawn("ww..ww"), 1, true, sp(2, 4), drawn("ww..ww", "..ww"), true},
		{"a writer in the first position alone", drawn("..w"), 1, false, sp(2, 6), drawn("..w"), false},
		{"a writer in the last position alone", drawn(".....w"), 1, false, sp(2, 6), drawn(".....w"), false},
		{"a reader in one position alone", drawn("...r"), 1, true, sp(2, 6), drawn("...r"), false},
		{"two readers, and is to write", drawn("rr", "rr"), 1, true, sp(0, 2), drawn("rr", "rr"), false},
		{"has a part of it, and another the rest", drawn("ww", "..ww"), 0, true, sp(0, 4), drawn("ww", "..ww"), false},
		{"a twelfth range", drawn(rs[:22]), 0, false, sp(40, 41), drawn(rs[:22] + strings.Repeat(".", 18) + "r"), true},
		{"a thirteenth range to read", drawn(rs), 0, false, sp(40, 41), drawn(rs), false},
		{"a thirteenth range to write", drawn(ws), 0, true, sp(40, 41), drawn(ws), false},
		{"a thirteenth range of another list", drawn(rs), 0, true, sp(40, 41), drawn(rs + strings.Repeat(".", 16) + "w"), true},
		{"a thirteenth range of another client", drawn("", rs), 0, false, sp(40, 41), drawn(strings.Repeat(".", 40)+"r", rs), true},
		{"more of a twelfth range", drawn(rs), 0, false, sp(23, 40), drawn(rs[:22] + strings.Repeat("r", 18)), true},
		{"to write in the middle of one of twelve to read", drawn(strings.Repeat("rrr.", 12)), 0, true, sp(1, 2), drawn(strings.Repeat("rrr.", 12)), false},
		{"to write the start of one of twelve to read", drawn(strings.Repeat("rrr.", 12)), 0, true, sp(0, 1), drawn("wrr." + strings.Repeat("rrr.", 11)), true},
		{"to read the gaps of twelve to write", drawn(ws), 0, false, sp(0, 24), drawn(strings.Repeat("wr", 12)), true},
		{"to read thirteen gaps around twelve to write", drawn("." + ws), 0, false, sp(0, 25), drawn("." + ws), false},
		{"to write all of twelve", drawn(strings.Repeat("rw", 12)), 0, true, sp(0, 48), drawn(strings.Repeat("w", 48)), true},
		{"an empty range", drawn("ww"), 0, true, sp(3, 3), drawn("ww"), false},
		{"past the last position", drawn("ww"), 0, true, sp(40, 49), drawn("ww"), false},
		{"a negative client", drawn("ww"), -1, true, sp(4, 6), drawn("ww"), false},
		{"client 3", drawn("ww"), 3, true, sp(4, 6), drawn("ww"), false},
	} {
		if got, ok := impl.LockGive(holdsOf(c.b), c.who, c.write, c.s); ok != c.ok || !sameHolds(got, holdsOf(c.want)) {
			t.Errorf("%s: %v %v", c.name, got, ok)
		}
	}
}

func TestLockDropAndDownEdges(t *testing.T) {
	wide := strings.Repeat("www.", 12)
	for _, c := range []struct {
		name string
		f    func(t []impl.Hold, who int, s impl.Span) ([]impl.Hold, bool)
		b    board
		who  int
		s    impl.Span
		want board
		ok   bool
	}{
		{"drop of both lists", impl.LockDrop, drawn("rrww", "rr"), 0, sp(1, 3), drawn("r..w", "rr"), true},
		{"drop of all", impl.LockDrop, drawn("rrww", "rr"), 0, sp(0, 48), drawn("", "rr"), true},
		{"drop in the middle", impl.LockDrop, drawn("", "wwww"), 1, sp(1, 2), drawn("", "w.ww"), true},
		{"drop where the client has nothing", impl.LockDrop, drawn("..ww", "rr"), 0, sp(0, 2), drawn("..ww", "rr"), true},
		{"drop of a client that has nothing", impl.LockDrop, drawn("wwww", "", "....rr"), 1, sp(0, 48), drawn("wwww", "", "....rr"), true},
		{"drop where it has nothing in part", impl.LockDrop, drawn("..ww..rr"), 0, sp(3, 7), drawn("..w....r"), true},
		{"drop of what others read too", impl.LockDrop, drawn("rr", "rr", "rr"), 1, sp(0, 2), drawn("rr", "", "rr"), true},
		{"drop of position 47", impl.LockDrop, drawn(strings.Repeat("w", 48)), 0, sp(47, 48), drawn(strings.Repeat("w", 47)), true},
		{"drop to thirteen ranges to write", impl.LockDrop, drawn(wide), 0, sp(1, 2), drawn(wide), false},
		{"drop to thirteen ranges to read", impl.LockDrop, drawn(strings.Repeat("rrr.", 12)), 0, sp(45, 46), drawn(strings.Repeat("rrr.", 12)), false},
		{"drop of one end of twelve", impl.LockDrop, drawn(wide), 0, sp(0, 1), drawn(".ww." + wide[4:]), true},
		{"drop to twelve ranges", impl.LockDrop, drawn(wide[:44]), 0, sp(1, 2), drawn("w.w." + wide[4:44]), true},
		{"drop past the last position", impl.LockDrop, drawn("ww"), 0, sp(0, 49), drawn("ww"), false},
		{"drop of an empty range", impl.LockDrop, drawn("ww"), 0, sp(1, 1), drawn("ww"), false},
		{"drop of a negative client", impl.LockDrop, drawn("ww"), -1, sp(0, 2), drawn("ww"), false},
		{"drop of client 3", impl.LockDrop, drawn("ww"), 3, sp(0, 2), drawn("ww"), false},
		{"down", impl.LockDown, drawn("wwww"), 0, sp(1, 3), drawn("wrrw"), true},
		{"down of all", impl.LockDown, drawn("", "ww..rrww"), 1, sp(0, 48), drawn("", "rr..rrrr"), true},
		{"down between what it reads", impl.LockDown, drawn("rwr"), 0, sp(1, 2), drawn("rrr"), true},
		{"down where it reads", impl.LockDown, drawn("rrww"), 0, sp(0, 2), drawn("rrww"), true},
		{"down where it may write half", impl.LockDown, drawn("rrww"), 0, sp(0, 4), drawn("rrrr"), true},
		{"down where the client has nothing", impl.LockDown, drawn("..ww"), 0, sp(0, 2), drawn("..ww"), true},
		{"down where it has nothing in part", impl.LockDown, drawn("..ww"), 0, sp(0, 3), drawn("..rw"), true},
		{"down of a client that has nothing", impl.LockDown, drawn("wwww", "", "....rr"), 1, sp(0, 48), drawn("wwww", "", "....rr"), true},
		{"down of position 47", impl.LockDown, drawn(strings.Repeat("w", 48)), 0, sp(47, 48), drawn(strings.Repeat("w", 47) + "r"), true},
		{"down to thirteen ranges to write", impl.LockDown, drawn(wide), 0, sp(1, 2), drawn(wide), false},
		{"down to thirteen ranges to read", impl.LockDown, drawn(strings.Repeat("r.", 12) + "w"), 0, sp(24, 25), drawn(strings.Repeat("r.", 12) + "r"), false},
		{"down of all of twelve", impl.LockDown, drawn(wide), 0, sp(0, 48), drawn(strings.Repeat("rrr.", 12)), true},
		{"down past the last position", impl.LockDown, drawn("ww"), 0, sp(0, 49), drawn("ww"), false},
		{"down of an empty range", impl.LockDown, drawn("ww"), 0, sp(1, 1), drawn("ww"), false},
		{"down of a negative client", impl.LockDown, drawn("ww"), -1, sp(0, 2), drawn("ww"), false},
		{"down of client 3", impl.LockDown, drawn("ww"), 3, sp(0, 2), drawn("ww"), false},
	} {
		want, _ := c.want.table()
		if !c.ok {
			want = holdsOf(c.b)
		}
		if got, ok := c.f(holdsOf(c.b), c.who, c.s); ok != c.ok || !sameHolds(got, want) {
			t.Errorf("%s: %v %v", c.name, got, ok)
		}
	}
}

func TestLockOffEdges(t *testing.T) {
	for _, c := range []struct {
		name string
		b    board
		who  int
		want board
		ok   bool
	}{
		{"both lists", drawn("rrww", "rr..ww"), 0, drawn("", "rr..ww"), true},
		{"the last client", drawn("rr", "", "rr"+strings.Repeat("w", 46)), 2, drawn("rr"), true},
		{"everything", drawn("", strings.Repeat("w", 48)), 1, drawn(), true},
		{"twelve ranges in each list", drawn(strings.Repeat("rw", 12)), 0, drawn(), true},
		{"a client that has nothing", drawn("rrww"), 1, drawn("rrww"), true},
		{"nobody has anything", drawn(), 1, drawn(), true},
		{"a negative client", drawn("rrww"), -1, drawn("rrww"), false},
		{"client 3", drawn("rrww", "", "....w"), 3, drawn("rrww", "", "....w"), false},
	} {
		if got, ok := impl.LockOff(holdsOf(c.b), c.who); ok != c.ok || !sameHolds(got, holdsOf(c.want)) {
			t.Errorf("%s: %v %v", c.name, got, ok)
		}
	}
}

func TestLockOfInvalidTables(t *testing.T) {
	spans := append(badSpans(), sp(0, 1), sp(4, 6), sp(20, 30), sp(0, 48))
	for _, bad := range badTables() {
		for _, who := range []int{0, 1, 2, 3, -1} {
			for _, s := range spans {
				for _, write := range []bool{false, true} {
					if impl.LockMay(bad, who, write, s) {
						t.Fatal("may", bad, who, write, s)
					}
					if got := impl.LockBars(bad, who, write, s); len(got) != 0 {
						t.Fatal("bars", bad, who, write, s, got)
					}
				}
				for _, x := range lockFuncs() {
					if got, ok := x.f(bad, who, s); ok || len(got) != 0 {
						t.Fatal(x.name, bad, who, s, got, ok)
					}
				}
			}
			if got, ok := impl.LockOff(bad, who); ok || len(got) != 0 {
				t.Fatal("off", bad, who, got, ok)
			}
		}
	}
}

func TestLockOfInvalidClientsAndRanges(t *testing.T) {
	type pair struct {
		who int
		s   impl.Span
	}
	var pairs []pair
	for _, who := range badClients() {
		pairs = append(pairs, pair{who, sp(0, 1)}, pair{who, sp(10, 20)}, pair{who, sp(0, 48)}, pair{who, sp(3, 3)})
	}
	for _, s := range badSpans() {
		pairs = append(pairs, pair{0, s}, pair{1, s}, pair{2, s}, pair{3, s})
	}
	for _, b := range randomBoards(30) {
		table := holdsOf(b)
		for _, p := range pairs {
			for _, write := range []bool{false, true} {
				if impl.LockMay(table, p.who, write, p.s) {
					t.Fatal("may", table, p)
				}
				if got := impl.LockBars(table, p.who, write, p.s); len(got) != 0 {
					t.Fatal("bars", table, p, got)
				}
			}
			for _, x := range lockFuncs() {
				if got, ok := x.f(table, p.who, p.s); ok || !sameHolds(got, table) {
					t.Fatal(x.name, table, p, got, ok)
				}
			}
		}
		for _, who := range badClients() {
			if got, ok := impl.LockOff(table, who); ok || !sameHolds(got, table) {
				t.Fatal("off", table, who, got, ok)
			}
		}
	}
}

func TestLockSame(t *testing.T) {
	base := []impl.Hold{
		{Read: []impl.Span{sp(0, 2)}, Write: []impl.Span{sp(4, 6), sp(8, 9)}},
		{Read: []impl.Span{sp(0, 2)}},
		{Write: []impl.Span{sp(20, 24)}},
	}
	with := func(f func(x []impl.Hold) []impl.Hold) []impl.Hold { return f(cloneHolds(base)) }
	for _, c := range []struct {
		name string
		b    []impl.Hold
		want bool
	}{
		{"itself", base, true},
		{"the same in memory of its own", cloneHolds(base), true},
		{"empty lists in place of nil", with(func(x []impl.Hold) []impl.Hold {
			x[1].Write, x[2].Read = []impl.Span{}, make([]impl.Span, 0, 4)
			return x
		}), true},
		{"a range less to read", with(func(x []impl.Hold) []impl.Hold { x[0].Read = nil; return x }), false},
		{"a range less to write", with(func(x []impl.Hold) []impl.Hold { x[0].Write = x[0].Write[:1]; return x }), false},
		{"a range more", with(func(x []impl.Hold) []impl.Hold { x[2].Read = []impl.Span{sp(40, 41)}; return x }), false},
		{"another Lo to read", with(func(x []impl.Hold) []impl.Hold { x[0].Read[0].Lo = 1; return x }), false},
		{"another Hi to read", with(func(x []impl.Hold) []impl.Hold { x[1].Read[0].Hi = 3; return x }), false},
		{"another Lo to write", with(func(x []impl.Hold) []impl.Hold { x[2].Write[0].Lo = 21; return x }), false},
		{"another Hi to write", with(func(x []impl.Hold) []impl.Hold { x[0].Write[1].Hi = 10; return x }), false},
		{"lists in each other's place", with(func(x []impl.Hold) []impl.Hold { x[2] = impl.Hold{Read: x[2].Write}; return x }), false},
		{"clients in each other's place", with(func(x []impl.Hold) []impl.Hold { x[1], x[2] = x[2], x[1]; return x }), false},
		{"a client less", base[:2], false},
		{"a client more", append(cloneHolds(base), impl.Hold{}), false},
		{"no client", nil, false},
		{"the same positions in other ranges", with(func(x []impl.Hold) []impl.Hold { x[0].Read = []impl.Span{sp(0, 1), sp(1, 2)}; return x }), false},
		{"the same ranges in another order", with(func(x []impl.Hold) []impl.Hold { slices.Reverse(x[0].Write); return x }), false},
	} {
		if got := impl.LockSame(base, c.b); got != c.want {
			t.Errorf("%s: %v", c.name, got)
		}
		if got := impl.LockSame(c.b, base); got != c.want {
			t.Errorf("%s, the other way round: %v", c.name, got)
		}
	}
	if !impl.LockSame(nil, []impl.Hold{}) {
		t.Error("no client, and no client")
	}
	// Tables that were made in different ways but hold the same positions.
	first, _ := impl.LockGive(make([]impl.Hold, 3), 0, false, sp(0, 8))
	second, _ := impl.LockGive(make([]impl.Hold, 3), 0, true, sp(4, 8))
	second, _ = impl.LockDown(second, 0, sp(0, 48))
	second, _ = impl.LockGive(second, 0, false, sp(0, 4))
	if !impl.LockSame(first, second) || len(first) != 3 {
		t.Error(first, second)
	}
}

// Tables that are not valid are compared field by field too.
func TestLockSameOfInvalid(t *testing.T) {
	tables := badTables()
	for i, a := range tables {
		if !impl.LockSame(a, cloneHolds(a)) {
			t.Error("not itself:", a)
		}
		for _, b := range tables[max(0, i-40):i] {
			if got := impl.LockSame(a, b); got != sameHolds(a, b) {
				t.Error(a, b, got)
			}
		}
	}
}

// roomy is the table with marks in the capacity behind each length, and a function that says whether it is still so.
func roomy(t []impl.Hold) ([]impl.Hold, func() bool) {
	mark := sp(7, -7)
	list := func(s []impl.Span) []impl.Span { return append(slices.Clone(s), mark, mark) }
	var full []impl.Hold
	for _, h := range t {
		full = append(full, impl.Hold{Read: list(h.Read), Write: list(h.Write)})
	}
	full = append(full, impl.Hold{Read: []impl.Span{mark}})
	keep := cloneHolds(full)
	var out []impl.Hold
	for i, h := range full[:len(t)] {
		out = append(out, impl.Hold{Read: full[i].Read[:len(h.Read)-2], Write: full[i].Write[:len(h.Write)-2]})
	}
	outer := slices.Clone(out)
	out = append(out, full[len(t)])[:len(t)]
	return out, func() bool {
		return sameHolds(full, keep) && sameHolds(out, outer) && sameHolds(out[:len(t)+1][len(t):], keep[len(t):])
	}
}

// spoil writes into all memory of a table, with its unused capacity.
func spoil(t []impl.Hold) {
	t = t[:cap(t)]
	for i := range t {
		for _, list := range [][]impl.Span{t[i].Read, t[i].Write} {
			for j := range list[:cap(list)] {
				list[:cap(list)][j] = sp(-9, -9)
			}
		}
		t[i] = impl.Hold{}
	}
}

// Arguments stay as they are, beyond their length too, and a result is new memory, with its unused capacity, also where it is the table that was given.
func TestLockMemory(t *testing.T) {
	spans := []impl.Span{sp(0, 48), sp(0, 1), sp(1, 2), sp(3, 9), sp(47, 48), sp(3, 3)}
	for _, b := range randomBoards(60) {
		for _, s := range spans {
			for _, who := range []int{0, 1, 2, 3} {
				for _, x := range append(lockFuncs(), lockFunc{"off", func(t []impl.Hold, who int, s impl.Span) ([]impl.Hold, bool) { return impl.LockOff(t, who) }}) {
					table, same := roomy(holdsOf(b))
					first, _ := x.f(table, who, s)
					second, _ := x.f(table, who, s)
					keep := cloneHolds(second)
					spoil(first)
					if !same() {
						t.Fatal(x.name, "changes its argument", table)
					}
					if !sameHolds(second, keep) {
						t.Fatal(x.name, "has memory of another result", second)
					}
				}
			}
		}
	}
}

// No two lists of one table share memory, with their unused capacity: each keeps what is written into it.
func TestLockListsApart(t *testing.T) {
	for _, b := range randomBoards(60) {
		for _, x := range lockFuncs() {
			for _, s := range []impl.Span{sp(3, 9), sp(0, 48), sp(3, 3)} {
				got, _ := x.f(holdsOf(b), 0, s)
				var lists [][]impl.Span
				for _, h := range got {
					lists = append(lists, h.Read[:cap(h.Read)], h.Write[:cap(h.Write)])
				}
				for i, list := range lists {
					for j := range list {
						list[j] = sp(-9, i)
					}
				}
				for i, list := range lists {
					for _, v := range list {
						if v != sp(-9, i) {
							t.Fatal(x.name, s, "lists share memory:", v.Hi, i)
						}
					}
				}
			}
		}
	}
}

func TestLockReadOnly(t *testing.T) {
	for _, b := range randomBoards(60) {
		table, same := roomy(holdsOf(b))
		impl.LockOk(table)
		impl.LockMay(table, 1, true, sp(0, 48))
		impl.LockSame(table, table[:2])
		first := impl.LockBars(table, 1, true, sp(0, 48))
		second := impl.LockBars(table, 1, true, sp(0, 48))
		keep := slices.Clone(second)
		for i := range first[:cap(first)] {
			first[:cap(first)][i] = -9
		}
		if !same() || !slices.Equal(second, keep) {
			t.Fatal(table, second)
		}
	}
}
