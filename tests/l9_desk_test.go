package tests

import (
	"fmt"
	"math/rand"
	"regexp"
	"runtime"
	"strconv"
	"strings"
	"sync"
	"testing"

	"loop.example/pannage/impl"
)

// Promise 10: the output of a script begins with the output of every prefix that ends at a line break, and queries have no effect.

var (
	layForm = regexp.MustCompile("^lay ([1-8]) ([1-3])$")
	whoForm = regexp.MustCompile("^who ([0-2])$")
)

// clerk executes a script in the plainest way, on a town, to hold the outputs against.
type clerk struct {
	town town
	said string
}

// told is the output of a script.
func told(script string) string {
	if len(script) > 20000 {
		return "long\n"
	}
	c := clerk{town: newTown(lay(4, 2))}
	for i, line := range strings.Split(script, "\n") {
		words := strings.FieldsFunc(line, func(r rune) bool { return r == ' ' })
		switch {
		case len(words) == 0:
		case i >= 200 || len(c.said) > 20000:
			return c.said + "full\n"
		default:
			c.said += c.answer(strings.Join(words, " ")) + "\n"
		}
	}
	return c.said
}

// answer is the output of a line with single spaces, but for its last newline.
func (c *clerk) answer(line string) string {
	switch line {
	case "text":
		return c.town.text()
	case "file":
		return c.town.file()
	case "kept":
		return reqLines(c.town.kept)
	case "late":
		return reqLines(c.town.late)
	}
	if m := layForm.FindStringSubmatch(line); m != nil {
		size, _ := strconv.Atoi(m[1])
		many, _ := strconv.Atoi(m[2])
		c.town = newTown(lay(size, many))
		return "fine"
	}
	if m := whoForm.FindStringSubmatch(line); m != nil {
		who, _ := strconv.Atoi(m[1])
		return c.town.who(who)
	}
	e, _, isEv, _ := readLine(line)
	if !isEv {
		return "what"
	}
	next, text, code := c.town.after(e)
	c.town = next
	if e.Kind == 2 && code == 0 {
		return text
	}
	return map[int]string{
		0: "fine", 1: "form", 2: "fenced", 3: "again", 4: "gap", 20: "form", 21: "dead", 22: "held", 23: "lock", 24: "full",
	}[code]
}

func reqLines(list []impl.Req) string {
	out := ""
	for _, q := range list {
		out += reqLine(q) + "\n"
	}
	return out + "end"
}

func (n town) who(who int) string {
	out := fmt.Sprintf("epoch %d", n.epochs[who])
	if !n.alive[who] {
		out += " dead"
	}
	for _, of := range []struct {
		name  string
		where places
	}{
		{"read", n.locks.where(who, "r")}, {"write", n.locks.where(who, "w")},
		{"have", n.caches[who].where("hd")}, {"dirty", n.caches[who].where("d")},
	} {
		out += "\n" + of.name
		for _, s := range of.where.ranges() {
			out += fmt.Sprintf(" %d %d", s.Lo, s.Hi)
		}
	}
	return out
}

// runs checks the output of a script.
func runs(t *testing.T, script, want string) {
	t.Helper()
	if got := impl.DeskRun(script); got != want {
		t.Errorf("%q:\n%q, not\n%q", script, got, want)
	}
	if got := told(script); got != want {
		t.Errorf("the clerk: %q:\n%q, not\n%q", script, got, want)
	}
}

// checkDesk holds the output of a script against the clerk, and gives it.
func checkDesk(t *testing.T, script string) string {
	t.Helper()
	got := impl.DeskRun(script)
	if want := told(script); got != want {
		t.Fatalf("%q:\n%q, not\n%q", script, got, want)
	}
	return got
}

// checkPrefixes checks that the output begins with that of each prefix that ends at a line break, with the newline or without it.
func checkPrefixes(t *testing.T, script string) {
	t.Helper()
	whole := checkDesk(t, script)
	for i := range len(script) {
		if script[i] != '\n' {
			continue
		}
		got := checkDesk(t, script[:i+1])
		if !strings.HasPrefix(whole, got) || checkDesk(t, script[:i]) != got {
			t.Fatalf("%q: the output up to byte %d is %q", script, i, got)
		}
	}
}

// outputs is the output of each line: what it adds to that of the lines before it.
func outputs(t *testing.T, lines []string) []string {
	t.Helper()
	var out []string
	before := ""
	for i := range lines {
		now := impl.DeskRun(strings.Join(lines[:i+1], "\n"))
		added, ok := strings.CutPrefix(now, before)
		if !ok {
			t.Fatalf("%q: the output is %q after %q", lines[:i+1], now, before)
		}
		out, before = append(out, added), now
	}
	return out
}

// quiet lines have no effect.
func quiet() []string {
	return append(junk(), "text", "file", "kept", "late", "who 0", "who 1", "who 2", "  text", "who   1 ", " kept ", "", "   ")
}

// state is the queries for all that a file system has.
const state = "text\nfile\nkept\nlate\nwho 0\nwho 1\nwho 2\n"

// checkQuiet checks that lines have the same output with quiet lines between them.
func checkQuiet(t *testing.T, r *rand.Rand, lines []string) {
	t.Helper()
	lines = append(lines, strings.Split(state, "\n")...)
	var mixed []string
	var at []int
	for _, line := range lines {
		for range r.Intn(3) {
			mixed = append(mixed, quiet()[r.Intn(len(quiet()))])
		}
		at = append(at, len(mixed))
		mixed = append(mixed, line)
	}
	want, got := outputs(t, lines), outputs(t, mixed)
	if len(mixed) > 200 || len(strings.Join(got, "")) > 20000 {
		t.Fatal("too long for a script:", len(mixed))
	}
	for i := range lines {
		if got[at[i]] != want[i] {
			t.Fatalf("%q of %q: %q, but %q without quiet lines", lines[i], mixed, got[at[i]], want[i])
		}
	}
}

// unchanged checks that a line is answered with what alone, and changes nothing, at the beginning and after other lines.
func unchanged(t *testing.T, line string) {
	t.Helper()
	for _, before := range []string{"", busyScript} {
		was, is := impl.DeskRun(before+state), impl.DeskRun(before+line+"\n"+state)
		start := len(impl.DeskRun(before))
		if is != was[:start]+"what\n"+was[start:] {
			t.Fatalf("%q after %q: %q, not what and then %q", line, before, is[start:], was[start:])
		}
	}
	checkDesk(t, busyScript+line+"\n"+state)
}

// busyScript leaves something in each list that a query shows, and a client that is not connected.
const busyScript = "lay 3 2\nlock 0 w 0 12\nwrite 0 1 abcde\nevict 0\nlock 0 w 0 12\nwrite 0 1 fgh\nlock 1 r 2 20\nread 1 2 14\nwrite 0 0 ij\ndie 2\n"

const exampleScript = `lay 2 2
lock 0 w 0 8
write 0 1 abc
file
lock 1 r 0 4
read 1 0 4
kept
write 0 5 z
text
evict 0
late
give 0
text
who 1
lock 2 w 3 6
die 2
lock 0 w 0 4
evict 2
lock 0 w 0 4
fall
file
fly
`

const exampleOutput = `fine
fine
fine
................................................
fine
.abc
0 0 1 0 1 a
0 0 2 1 0 bc
end
fine
.abc.z..........................................
fine
0 0 3 0 3 z
end
fenced
.abc............................................
epoch 0
read 0 4
write
have 0 4
dirty
fine
fine
held
fine
fine
fine
.abc............................................
what
`

func TestDeskConstants(t *testing.T) {
	if impl.DeskMaxText != 20000 || impl.DeskMaxLines != 200 || impl.DeskMaxOut != 20000 {
		t.Error(impl.DeskMaxText, impl.DeskMaxLines, impl.DeskMaxOut)
	}
}

func TestDeskExample(t *testing.T) {
	runs(t, exampleScript, exampleOutput)
	runs(t, strings.TrimSuffix(exampleScript, "\n"), exampleOutput)
	checkPrefixes(t, exampleScript)
	checkQuiet(t, rand.New(rand.NewSource(1)), strings.Split(exampleScript, "\n"))
}

// A script for each line of the table and each kind of event.
func TestDeskLines(t *testing.T) {
	blank := dotted("") + "\n"
	for _, c := range []struct{ script, want string }{
		{"lay 1 1", "fine\n"},
		{"lay 8 3\nlock 0 w 0 48\nwrite 0 6 abcd\nflush 0\nkept", "fine\nfine\nfine\nfine\n0 0 1 0 6 ab\n0 0 2 1 0 cd\nend\n"},
		{"text", blank},
		{"file", blank},
		{"lock 2 w 0 48\nwrite 2 46 yz\ntext\nfile", "fine\nfine\n" + strings.Repeat(".", 46) + "yz\n" + blank},
		{"kept", "end\n"},
		{"late", "end\n"},
		{"lock 1 w 3 9\nwrite 1 3 abc\nkept\nflush 1\nkept\nlate\nsync\nkept", "fine\nfine\nend\nfine\n1 0 1 0 3 a\n1 0 2 1 0 bc\nend\nend\nfine\nend\n"},
		{"who 0", "epoch 0\nread\nwrite\nhave\ndirty\n"},
		{"who 2\ndie 2\nwho 2\nevict 2\nwho 2", "epoch 0\nread\nwrite\nhave\ndirty\nfine\nepoch 0 dead\nread\nwrite\nhave\ndirty\nfine\nepoch 1\nread\nwrite\nhave\ndirty\n"},
		{"lock 1 w 0 48\nwho 1", "fine\nepoch 0\nread\nwrite 0 48\nhave\ndirty\n"},
		{"lock 1 r 0 4\nlock 1 w 6 8\nlock 1 r 40 48\nread 1 0 2\nread 1 41 42\nwrite 1 7 a\nwho 1", "fine\nfine\nfine\n..\n.\nfine\nepoch 0\nread 0 4 40 48\nwrite 6 8\nhave 0 2 7 8 41 42\ndirty 7 8\n"},
		{"lock 0 w 0 8", "fine\n"},
		{"lock 0 r 0 8", "fine\n"},
		{"read 0 0 8", "lock\n"},
		{"lock 0 r 0 8\nread 0 0 8\nread 0 7 8\nread 0 8 9", "fine\n........\n.\nlock\n"},
		{"lock 0 w 0 8\nwrite 0 0 fine\nread 0 0 4\nread 0 0 1", "fine\nfine\nfine\nf\n"},
		{"write 0 0 a", "lock\n"},
		{"flush 0", "fine\n"},
		{"sync", "fine\n"},
		{"fall", "fine\n"},
		{"die 0", "fine\n"},
		{"die 0\ndie 0", "fine\ndead\n"},
		{"evict 0", "fine\n"},
		{"give 0", "form\n"},
		{"give 7", "form\n"},
	} {
		runs(t, c.script, c.want)
		runs(t, c.script+"\n", c.want)
		checkPrefixes(t, c.script)
	}
}

// Each query, where every list has something in it.
func TestDeskQueries(t *testing.T) {
	runs(t, busyScript+state, strings.Repeat("fine\n", 7)+"gh..........\nfine\nfine\n"+dotted("ijgh")+"\n"+dotted("..gh")+"\n"+
		"0 1 1 0 2 g\n0 1 2 1 0 h\nend\n0 0 1 0 1 ab\n0 0 2 1 0 cde\nend\n"+
		"epoch 1\nread 2 12\nwrite 0 2\nhave 0 4\ndirty 0 2\n"+
		"epoch 0\nread 2 20\nwrite\nhave 2 14\ndirty\n"+
		"epoch 0 dead\nread\nwrite\nhave\ndirty\n")
}

// A client's death takes its cache and not its locks, which `who` goes on showing until the client is evicted.
func TestDeskWhoOfOneThatDied(t *testing.T) {
	runs(t, "lock 0 w 0 8\nwrite 0 2 ab\nlock 0 r 9 10\ndie 0\nwho 0\nevict 0\nwho 0",
		"fine\nfine\nfine\nfine\nepoch 0 dead\nread 9 10\nwrite 0 8\nhave\ndirty\nfine\nepoch 1\nread\nwrite\nhave\ndirty\n")
}

func TestDeskStartsWithFourAndTwo(t *testing.T) {
	for _, script := range []string{"lock 0 w 0 48\nwrite 0 0 " + textOf(48, 2) + "\nflush 0\nkept", state, exampleScript[len("lay 2 2\n"):]} {
		want := "fine\n" + impl.DeskRun(script)
		if got := impl.DeskRun("lay 4 2\n" + script); got != want {
			t.Errorf("%q: %q, not %q", script, got, want)
		}
	}
	runs(t, "lock 0 w 0 48\nwrite 0 3 abcdef\nflush 0\nkept", "fine\nfine\nfine\n0 0 1 0 3 a\n0 0 2 1 0 bcde\n0 0 3 0 4 f\nend\n")
}

// A client reads what another one wrote, wherever the other's modifications are, as long as they were not lost.
func TestDeskOneWritesAnotherReads(t *testing.T) {
	runs(t, "lock 0 w 0 10\nwrite 0 0 hello\nlock 1 r 0 10\nread 1 0 6\nlock 1 w 3 5\nread 0 3 5\nwrite 1 3 xy\nlock 2 r 0 10\nread 2 0 6\nread 0 0 3\nlock 0 r 0 10\nread 0 0 6\nfile",
		"fine\nfine\nfine\nhello.\nfine\nlock\nfine\nfine\nhelxy.\nhel\nfine\nhelxy.\n"+dotted("helxy")+"\n")
	runs(t, "lock 0 w 0 10\nwrite 0 0 hello\nflush 0\nwrite 0 1 u\ndie 0\nlock 1 r 0 5\nevict 0\nlock 1 r 0 5\nread 1 0 5\ngive 0\nfall\nread 1 0 5\nlock 2 r 0 5\nread 2 0 5",
		"fine\nfine\nfine\nfine\nfine\nheld\nfine\nfine\nhello\nform\nfine\nhello\nfine\nhello\n")
	runs(t, "lock 0 w 0 4\nwrite 0 0 ab\nflush 0\nwrite 0 0 c\nevict 0\nlock 1 w 0 4\nwrite 1 1 d\nflush 1\nlate\ngive 0\nlate\nread 1 0 4\nlock 0 r 0 4\nread 0 0 4",
		"fine\nfine\nfine\nfine\nfine\nfine\nfine\nfine\n0 0 2 0 0 c\nend\nfenced\nend\nad..\nfine\nad..\n")
}

// Each word that stands for a code that an event can have. Whatever is late was sent in an epoch that is over, so that `give`
// has no other code than that of form and fenced.
func TestDeskCodeWords(t *testing.T) {
	for _, c := range []struct{ script, want string }{
		{"lock 0 w 0 4\nwrite 0 0 a\nevict 0\ngive 0", "fenced"},
		{"give 0", "form"},
		{"die 1\nread 1 0 4", "dead"},
		{"die 1\nlock 1 r 0 4", "dead"},
		{"die 1\nwrite 1 0 a", "dead"},
		{"die 1\nflush 1", "dead"},
		{"lock 1 w 0 4\ndie 1\nlock 0 r 3 5", "held"},
		{"lock 1 r 0 4\ndie 1\nlock 0 w 3 5", "held"},
		{"lock 1 r 0 4\ndie 1\nlock 0 r 3 5", "fine"},
		{"lock 1 w 0 4\nread 0 0 4", "lock"},
		{"lock 1 r 0 4\nwrite 1 0 a", "lock"},
		{strings.Repeat("evict 2\n", 99) + "evict 2", "fine"},
		{strings.Repeat("evict 2\n", 100) + "evict 2", "full"},
		{apart("lock 0 r %d %d\n", 12) + "lock 0 r 47 48", "full"},
		{apart("lock 0 w %d %d\n", 11) + "lock 0 w 47 48", "fine"},
		{"lock 0 r 0 48\n" + apart("read 0 %d %d\n", 12) + "read 0 47 48", "full"},
		{"lock 0 r 0 48\n" + apart("read 0 %d %d\n", 11) + "read 0 47 48", "."},
		{"lock 0 w 0 48\n" + apart("write 0 %d a\n", 12) + "write 0 47 a", "full"},
	} {
		got := checkDesk(t, c.script)
		if !strings.HasSuffix(got, "\n"+c.want+"\n") && got != c.want+"\n" {
			t.Errorf("%q: %q, not %q at the end", c.script, got, c.want)
		}
	}
}

// apart is n lines for positions that do not touch.
func apart(line string, n int) string {
	out := ""
	for i := range n {
		text := strings.Replace(line, "%d", strconv.Itoa(i*3), 1)
		out += strings.Replace(text, "%d", strconv.Itoa(i*3+1), 1)
	}
	return out
}

func TestDeskWithoutWords(t *testing.T) {
	for _, script := range []string{"", "\n", "\n\n\n", " ", "    ", " \n", "\n ", " \n  \n   ", strings.Repeat("\n", 20000), strings.Repeat(" ", 20000), strings.Repeat(" \n", 10000)} {
		runs(t, script, "")
	}
	for _, blanks := range []string{"", " ", "       "} {
		runs(t, blanks+"\nsync\n"+blanks+"\n\n"+blanks+"\nfly\n"+blanks, "fine\nwhat\n")
	}
}

func TestDeskWithMoreSpaces(t *testing.T) {
	lines := strings.Split(strings.TrimSuffix(exampleScript+busyScript+state, "\n"), "\n")
	want := checkDesk(t, strings.Join(lines, "\n"))
	for _, gap := range []string{" ", "  ", "     "} {
		for _, ahead := range []string{"", " ", "    "} {
			for _, behind := range []string{"", " ", "   "} {
				var spaced []string
				for _, line := range lines {
					spaced = append(spaced, ahead+strings.ReplaceAll(line, " ", gap)+behind)
				}
				for _, end := range []string{"", "\n", "\n\n", "\n   "} {
					runs(t, strings.Join(spaced, "\n")+end, want)
				}
			}
		}
	}
	runs(t, "  lock   0 w    0  8  \n write  0 1   abc \n   text   ", "fine\nfine\n"+dotted(".abc")+"\n")
}

// Nothing else separates words, and nothing but a newline ends a line.
func TestDeskWithOtherSpaces(t *testing.T) {
	others := []string{"\t", "\r", "\v", "\f", "\x00", "\u0085", "\u00a0", "\u2003", "\u2028", "\ufeff", ",", ";", "_", "\xa0", "\xff", "\\n"}
	for _, line := range append(sampleLines(), sampleTexts()[:14]...) {
		for _, other := range others {
			unchanged(t, other+line)
			unchanged(t, line+other)
			unchanged(t, line+" "+other)
			unchanged(t, other+" "+line)
			for i := range len(line) {
				if line[i] == ' ' {
					unchanged(t, line[:i]+other+line[i+1:])
					unchanged(t, line[:i]+" "+other+line[i+1:])
				}
			}
		}
	}
	runs(t, "sync\r\nsync\n", "what\nfine\n")
	runs(t, "\t\nsync", "what\nfine\n")
	runs(t, "sync;sync\nsync sync", "what\nwhat\n")
}

// sampleLines is one of each line of the table that is no event's.
func sampleLines() []string {
	return []string{"lay 2 2", "text", "file", "kept", "late", "who 1"}
}

// junk is lines that are none.
func junk() []string {
	out := []string{
		"fly", "TEXT", "Text", "tex", "texts", "text text", "text 0", "file 0", "kept 0", "late 0", "kept late", "end", "fine", "what", "epoch 0",
		"FILE", "KEPT", "LATE", "WHO 0", "Who 0", "LAY 2 2", "Lay 2 2", "lay", "lay 2", "lay 2 2 2", "lay2 2", "lay 2 x", "lay x 2", "lay - 2", "lay 2.0 2",
		"who", "who 0 0", "who0", "who x", "who w", "who -", "who 3", "who -1", "who 10", "who 99999999999999999", "who 100000000000000000", "who 00", "who 01", "who -0", "who +1", "who 1.",
		"lay 0 1", "lay 9 1", "lay 1 0", "lay 1 4", "lay -1 1", "lay 1 -1", "lay -4 -2", "lay 02 2", "lay 2 02", "lay +2 2", "lay 2 +2", "lay -0 2", "lay 2 -0",
		"lay 99999999999999999 2", "lay 2 -99999999999999999", "lay 100000000000000002 2", "lay 2 18446744073709551618", "lay 00000000000000002 2",
		"lay 4294967298 2", "lay 2 4294967298", "lay 0x2 2", "lay 2_ 2", "lay \u0662 2", "lay \xb2 2", "who \u0661", "0", "1 0 1 0 0 a", "0 0 1 0 0 a",
		"lock", "lock 0", "lock 0 w", "lock 0 w 0", "lock 0 w 0 8 9", "lock 0 x 0 8", "LOCK 0 w 0 8", "lock 0 W 0 8", "lock 3 w 0 8", "lock -1 w 0 8", "lock 0 w 8 8", "lock 0 w 0 49", "lock 00 w 0 8",
		"read", "read 0", "read 0 0", "read 0 0 8 9", "read 0 0 0", "READ 0 0 8", "read 3 0 8", "read 0 -0 8", "read 0 0 +8", "read 0 0 99999999999999999", "read 0 0 100000000000000000",
		"write", "write 0", "write 0 1", "write 0 1 a b", "write 0 1 A", "write 0 48 a", "write 0 47 ab", "write 0 -1 a", "write 0 01 a", "write 0 1 \xff", "write 0 1 a\xc3", "write 0 1 \u00e4", "WRITE 0 1 a", "write 3 1 a",
		"flush", "flush 0 0", "flush 3", "Flush 0", "sync 0", "SYNC", "fall 0", "Fall", "die", "die 0 0", "die 3", "DIE 0", "evict", "evict 0 0", "evict -1", "Evict 0",
		"give", "give 8", "give -1", "give 0 0", "give 00", "GIVE 0", "\t", "\r", "\x00", "\xff", "\xff\xfe text", "text\t", "\ttext", "te\xffxt", "\u00e4", "\xe4", "\xf0\x9f\x92", "\u2003",
	}
	return out
}

func TestDeskLinesThatAreNone(t *testing.T) {
	for _, line := range junk() {
		unchanged(t, line)
		unchanged(t, "  "+strings.ReplaceAll(line, " ", "   ")+"  ")
	}
}

// A word too few or too many, or in capitals, in each line of the table.
func TestDeskWithOtherWords(t *testing.T) {
	for _, line := range append(sampleLines(), sampleTexts()[:14]...) {
		words := strings.Split(line, " ")
		for i := range words {
			if len(words) > 1 {
				unchanged(t, strings.Join(append(append([]string{}, words[:i]...), words[i+1:]...), " "))
			}
			upper := append([]string{}, words...)
			if upper[i] = strings.ToUpper(words[i]); upper[i] != words[i] {
				unchanged(t, strings.Join(upper, " "))
			}
		}
		for _, more := range []string{"0", "1", "w", "text", ".", "\x00"} {
			unchanged(t, line+" "+more)
			unchanged(t, more+" "+line)
		}
		if len(words) > 1 {
			unchanged(t, words[0]+" 0 "+strings.Join(words[1:], " "))
		}
	}
}

// What other readers of numbers take for a number. Of those with 17 digits none is small enough for any line.
func TestDeskWithOtherNumbers(t *testing.T) {
	for _, line := range append(sampleLines(), sampleTexts()[:14]...) {
		words := strings.Split(line, " ")
		for i, word := range words {
			n, err := strconv.Atoi(word)
			if err != nil {
				continue
			}
			others := append(notDigits(n), strings.Repeat("9", 17), strings.Repeat("9", 18), "-"+strings.Repeat("9", 17), "-"+strings.Repeat("9", 18),
				strings.Repeat("0", 16)+word, strings.Repeat("0", 17)+word, "1"+strings.Repeat("0", 16), "1"+strings.Repeat("0", 17))
			for _, other := range others {
				// One that is empty makes a word too few, and a newline two lines; of 100000 digits no script has room.
				if other == "" || strings.Contains(other, "\n") || len(other) > 10000 {
					continue
				}
				changed := append([]string{}, words...)
				changed[i] = other
				unchanged(t, strings.Join(changed, " "))
			}
		}
	}
}

func TestDeskLay(t *testing.T) {
	for _, l := range allLays() {
		script := fmt.Sprintf("lay %d %d\n", l.Size, l.Many)
		after := busyScript + script + state
		if got, want := checkDesk(t, after), impl.DeskRun(busyScript)+"fine\n"+impl.DeskRun(state); got != want {
			t.Errorf("%v: it does not start again: %q, not %q", l, got, want)
		}
		out := checkDesk(t, script+"lock 2 w 0 48\nwrite 2 0 "+textOf(48, l.Size)+"\nflush 2\nkept\n")
		if want := 5 + (48+l.Size-1)/l.Size; strings.Count(out, "\n") != want {
			t.Errorf("%v: %q, but not %d lines", l, out, want)
		}
	}
	for _, l := range badLays() {
		unchanged(t, fmt.Sprintf("lay %d %d", l.Size, l.Many))
	}
	runs(t, "lay 8 3\nlay 1 1\nlay 9 3\nlay 8 4\nlay 0 1\nlay 1 0\nlay -1 1\nlay 1 -1", "fine\nfine\nwhat\nwhat\nwhat\nwhat\nwhat\nwhat\n")
}

func TestDeskWho(t *testing.T) {
	for _, who := range badClients() {
		unchanged(t, fmt.Sprintf("who %d", who))
	}
	for who := range 3 {
		script := strings.ReplaceAll("who N\nlock N w 4 9\nwho N\nwrite N 5 abc\nwho N\nlock N r 20 22\nread N 20 21\nwho N\nflush N\nwho N\ndie N\nwho N\nevict N\nwho N\n", "N", strconv.Itoa(who))
		none := "read\nwrite\nhave\ndirty\n"
		runs(t, script, "epoch 0\n"+none+"fine\nepoch 0\nread\nwrite 4 9\nhave\ndirty\nfine\nepoch 0\nread\nwrite 4 9\nhave 5 8\ndirty 5 8\n"+
			"fine\n.\nepoch 0\nread 20 22\nwrite 4 9\nhave 5 8 20 21\ndirty 5 8\nfine\nepoch 0\nread 20 22\nwrite 4 9\nhave 5 8 20 21\ndirty\n"+
			"fine\nepoch 0 dead\nread 20 22\nwrite 4 9\nhave\ndirty\nfine\nepoch 1\n"+none)
	}
	// As many ranges as there may be, and an epoch of three digits.
	out := checkDesk(t, "lock 0 w 0 48\n"+apart("write 0 %d a\n", 12)+"who 0\n"+strings.Repeat("evict 1\n", 100)+"who 1")
	for _, want := range []string{"\nhave 0 1 3 4 6 7 9 10 12 13 15 16 18 19 21 22 24 25 27 28 30 31 33 34\ndirty 0 1 3 4", "\nepoch 100\nread\n"} {
		if !strings.Contains(out, want) {
			t.Errorf("%q does not contain %q", out, want)
		}
	}
}

func TestDeskLengths(t *testing.T) {
	for _, c := range []struct{ head, tail, want string }{
		{"", "", ""},
		{"sync", "", "fine\n"},
		{"sync\n", "", "fine\n"},
		{"", "\nsync\n", "fine\n"},
		{"fly ", "x", "what\n"},
		{"lock 0 ", " w 0 8", "fine\n"},
		{exampleScript, "", exampleOutput},
		{exampleScript, "\nsync", exampleOutput + "fine\n"},
	} {
		for long, want := range map[int]string{19999: c.want, 20000: c.want, 20001: "long\n", 20002: "long\n", 40000: "long\n", 1 << 20: "long\n"} {
			runs(t, c.head+strings.Repeat(" ", long-len(c.head)-len(c.tail))+c.tail, want)
		}
	}
	// What is too long is not executed, whatever it is, and has but one line of output.
	for _, s := range []string{"a", "\n", "sync\n", "text\n", "\xff", "\x00", "ä", " "} {
		many := 20000 / len(s)
		runs(t, strings.Repeat(s, many+1), "long\n")
		if out := checkDesk(t, strings.Repeat(s, many)); strings.Contains(out, "long") {
			t.Errorf("%q: %q", s, out)
		}
	}
	// The length is that of bytes, not of characters.
	runs(t, strings.Repeat("ä", 10000), "what\n")
	runs(t, strings.Repeat("ä", 10000)+"a", "long\n")
	runs(t, strings.Repeat("ä", 10001), "long\n")
}

func TestDeskManyLines(t *testing.T) {
	fines := func(n int) string { return strings.Repeat("fine\n", n) }
	for _, c := range []struct{ script, want string }{
		{strings.Repeat("sync\n", 199), fines(199)},
		{strings.Repeat("sync\n", 199) + "fall", fines(200)},
		{strings.Repeat("sync\n", 200), fines(200)},
		{strings.Repeat("sync\n", 200) + "fall", fines(200) + "full\n"},
		{strings.Repeat("sync\n", 200) + "fly", fines(200) + "full\n"},
		{strings.Repeat("sync\n", 200) + "text\nlate\nlay 1 1\nfly\n", fines(200) + "full\n"},
		{strings.Repeat("sync\n", 1000), fines(200) + "full\n"},
		{strings.Repeat("fly\n", 201), strings.Repeat("what\n", 200) + "full\n"},
		// Lines without words count, but have no output themselves, be they too many or not.
		{strings.Repeat("\n", 199) + "sync", fines(1)},
		{strings.Repeat("\n", 199) + "sync\n", fines(1)},
		{strings.Repeat("\n", 199) + "sync\nsync", fines(1) + "full\n"},
		{strings.Repeat("\n", 200) + "sync", "full\n"},
		{strings.Repeat("  \n", 200) + "sync\nsync\nsync\n", "full\n"},
		{strings.Repeat("\n", 200) + " ", ""},
		{strings.Repeat("\n", 5000) + "fly\n\n", "full\n"},
		{strings.Repeat("sync\n", 200) + "\n", fines(200)},
		{strings.Repeat("sync\n", 200) + "   ", fines(200)},
		{strings.Repeat("sync\n", 200) + "\n  \n\n", fines(200)},
		{strings.Repeat("sync\n", 200) + "\n  \n\nsync\n\nsync", fines(200) + "full\n"},
		{strings.Repeat("sync\n\n", 100) + "sync", fines(100) + "full\n"},
		{strings.Repeat("sync\n \n", 99) + "sync\nsync\n", fines(101)},
		{"\n" + strings.Repeat("sync\n", 200), fines(199) + "full\n"},
		// Other bytes that may look like the end of a line are none.
		{strings.Repeat("sync\n", 198) + "fly\rfly\vfly\u2028fly\nsync", fines(198) + "what\nfine\n"},
	} {
		runs(t, c.script, c.want)
	}
	for n := range 210 {
		for _, line := range []string{"sync\n", "\n", "text 0\n"} {
			checkDesk(t, strings.Repeat(line, n)+"fall")
			checkDesk(t, strings.Repeat(line, n)+"fall\n\nfly")
		}
	}
	checkPrefixes(t, strings.Repeat("sync\n\nlate\n", 70))
}

// filled is a script whose output has a number of bytes, and that has some lines left.
func filled(t *testing.T, want int) string {
	t.Helper()
	script := "lay 1 1\nlock 0 w 0 48\n" + strings.Repeat("write 0 0 "+textOf(48, 5)+"\nflush 0\n", 5) + "kept\nkept\nkept\nkept\nread 0 0 1\n"
	for left := want - len(told(script)); left != 0; {
		// A read of n bytes has n + 1 bytes of output. No read leaves a single byte over.
		n := min(left, 49)
		if left == 50 {
			n = 2
		}
		if n < 2 || strings.Count(script, "\n") > 190 {
			t.Fatal("it cannot be filled:", want, left)
		}
		script += fmt.Sprintf("read 0 0 %d\n", n-1)
		left -= n
	}
	return script
}

func TestDeskLongOutput(t *testing.T) {
	for _, c := range []struct {
		long       int
		tail, want string
	}{
		{19999, "sync", "fine\n"},
		{20000, "sync", "fine\n"},
		{20000, "sync\n", "fine\n"},
		{20000, "sync\nsync", "fine\nfull\n"},
		{20000, "fly\nsync", "what\nfull\n"},
		{20000, "text\ntext\ntext\n", dotted(textOf(48, 5)) + "\nfull\n"},
		{20000, "\n\n  \nsync\n", "fine\n"},
		{20001, "sync", "full\n"},
		{20001, "sync\n", "full\n"},
		{20001, "fly", "full\n"},
		{20001, "text\nsync\nlay 1 1\n", "full\n"},
		{20001, "", ""},
		{20001, "\n", ""},
		{20001, "  \n\n   ", ""},
		{20001, "  \n\n   sync\n\nsync", "full\n"},
		{20002, "sync", "full\n"},
		{19996, "sync\nsync", "fine\nfull\n"},
		{19995, "sync\nsync", "fine\nfine\n"},
		{19995, "sync\nsync\nsync", "fine\nfine\nfull\n"},
	} {
		script := filled(t, c.long)
		before := checkDesk(t, script)
		if len(before) != c.long {
			t.Fatal(len(before), c.long)
		}
		runs(t, script+c.tail, before+c.want)
	}
	// A line that begins within the limit is executed to its end.
	script := filled(t, 20000)
	out := checkDesk(t, script+"kept\nkept")
	if n := strings.Count(out, "\n"); len(out) < 20000+240*10 || !strings.HasSuffix(out, "\nend\nfull\n") || n != strings.Count(told(script), "\n")+242 {
		t.Error(len(out), n)
	}
	checkPrefixes(t, script+"sync\n\nsync\nsync\n")
	// One full is enough, whatever there is too much of.
	runs(t, filled(t, 20001)+strings.Repeat("\n", 200)+"sync\nsync", told(filled(t, 20001))+"full\n")
}

// someLine is a line that does something to a town, or a query, or none, with any spaces.
func someLine(r *rand.Rand, n town) string {
	line := evLine(someEvent(r, n))
	switch k := r.Intn(24); {
	case k < 5:
		line = quiet()[r.Intn(len(quiet()))]
	case k == 5 && r.Intn(6) == 0:
		l := append(allLays(), badLays()...)[r.Intn(30)]
		line = fmt.Sprintf("lay %d %d", l.Size, l.Many)
	}
	if strings.Contains(line, "\n") {
		return "fly"
	}
	words := strings.Split(line, " ")
	for i := range words {
		words[i] += strings.Repeat(" ", max(1, r.Intn(12)-8))
	}
	return strings.Repeat(" ", max(0, r.Intn(12)-9)) + strings.Join(words, "")
}

// someScript is lines that suit what the lines before them leave.
func someScript(r *rand.Rand, most int) []string {
	c := clerk{town: newTown(lay(4, 2))}
	var lines []string
	for range most {
		line := someLine(r, c.town)
		c.answer(strings.Join(strings.Fields(line), " "))
		lines = append(lines, line)
	}
	return lines
}

func TestDeskAgainstClerk(t *testing.T) {
	r := rand.New(rand.NewSource(101))
	many := map[string]int{}
	for i := range 250 {
		out := checkDesk(t, strings.Join(someScript(r, 20+r.Intn(190)), []string{"\n", " \n", "\n\n"}[i%25%3]))
		for line := range strings.Lines(out) {
			many[strings.Fields(line + " none")[0]]++
		}
	}
	for _, word := range []string{"fine", "form", "fenced", "dead", "held", "lock", "full", "what", "epoch", "end", "dirty"} {
		if many[word] < 10 {
			t.Error("hardly tested:", word, many[word])
		}
	}
}

func TestDeskPrefixes(t *testing.T) {
	r := rand.New(rand.NewSource(102))
	for i := range 25 {
		checkPrefixes(t, strings.Join(someScript(r, 30+i), "\n"))
	}
	checkPrefixes(t, strings.Join(someScript(r, 230), "\n"))
	checkPrefixes(t, exampleScript+busyScript+exampleScript+state)
}

// The prefix of a script that is too long has an output of its own; apart from that, the length of a script changes nothing.
func TestDeskPrefixesUpToTheLongest(t *testing.T) {
	script := exampleScript + strings.Repeat(" ", 20000-len(exampleScript)-5) + "\nfall"
	checkPrefixes(t, script)
	runs(t, script, exampleOutput+"fine\n")
	runs(t, script+"\n", "long\n")
}

func TestDeskQueriesHaveNoEffect(t *testing.T) {
	r := rand.New(rand.NewSource(103))
	for range 25 {
		lines := someScript(r, 40)
		checkQuiet(t, r, lines)
	}
	left := impl.DeskRun(busyScript + state)[len(impl.DeskRun(busyScript)):]
	for _, line := range quiet() {
		script := busyScript + strings.Repeat(line+"\n", 3)
		if got, want := impl.DeskRun(script+state), impl.DeskRun(script)+left; got != want {
			t.Errorf("%q: %q, not %q", line, got, want)
		}
	}
}

// Every byte in place of every byte, put in between everywhere, and taken away.
func TestDeskWithOtherBytes(t *testing.T) {
	head := "lock 1 w 0 8\nwrite 1 1 abc\n"
	for _, line := range append(sampleLines(), "lock 0 r 4 12", "write 1 5 z", "sync") {
		for i := 0; i <= len(line); i++ {
			for c := range 256 {
				b := string([]byte{byte(c)})
				checkDesk(t, head+line[:i]+b+line[i:]+"\nkept\nwho 1")
				if i < len(line) {
					checkDesk(t, head+line[:i]+b+line[i+1:]+"\nkept\nwho 1")
				}
			}
		}
	}
}

// Any bytes are a script.
func TestDeskOfRandomBytes(t *testing.T) {
	r := rand.New(rand.NewSource(104))
	parts := []string{" ", "\n", "\t", "\x00", "\xff", "\xc3", "ä", "0", "1", "-", "w", "lay", "who", "text", "kept", "lock 0 w 0 8", "write 0 1 ab", "sync", "\n", " ", "\n"}
	for range 3000 {
		var out strings.Builder
		for range r.Intn(60) {
			if r.Intn(8) == 0 {
				out.WriteByte(byte(r.Intn(256)))
			} else {
				out.WriteString(parts[r.Intn(len(parts))])
			}
		}
		got := checkDesk(t, out.String())
		if got != "" && !strings.HasSuffix(got, "\n") {
			t.Errorf("%q: %q does not end with a newline", out.String(), got)
		}
	}
}

// A call leaves nothing behind for another one, at the same time or later.
func TestDeskAtTheSameTime(t *testing.T) {
	before := runtime.NumGoroutine()
	var all sync.WaitGroup
	for i := range 8 {
		all.Go(func() {
			script := strings.Join(someScript(rand.New(rand.NewSource(int64(i%3))), 60), "\n")
			want := told(script)
			for range 5 {
				if got := impl.DeskRun(script); got != want {
					t.Errorf("%q: %q, not %q", script, got, want)
				}
				if got := impl.DeskRun(exampleScript); got != exampleOutput {
					t.Error(got)
				}
			}
		})
	}
	all.Wait()
	checkEnded(t, before)
}
