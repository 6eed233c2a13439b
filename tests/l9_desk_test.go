package tests

import (
	"fmt"
	"math/rand"
	"regexp"
	"runtime"
	"slices"
	"strconv"
	"strings"
	"sync"
	"testing"
	"time"

	"loop.example/hatchway/impl"
)

// lineShape is a word, and numbers behind it, of any form.
var lineShape = regexp.MustCompile(`\A([a-z]+)((?: (?:0|[1-9][0-9]{0,3}))+)\z`)

// wantForm is a form of line: its Kind, and the first signs of the numbers' names.
type wantForm struct {
	kind  int
	names string
}

// wantForms is the document's list, by the words.
func wantForms() map[string]wantForm {
	return map[string]wantForm{"send": {1, "WAN"}, "reply": {2, "WAN"}, "hear": {3, "A"}, "lose": {4, "A"}, "twice": {5, "A"}, "bend": {6, "ANV"}, "data": {7, "A"}, "word": {8, "WA"}}
}

// formWords is all words of these, in the order of their Kinds.
func formWords() []string {
	return []string{"send", "reply", "hear", "lose", "twice", "bend", "data", "word"}
}

// wantEvent is DskEvent by the shape of a line.
func wantEvent(s string) (impl.EvEvent, bool) {
	parts := lineShape.FindStringSubmatch(s)
	if parts == nil {
		return impl.EvEvent{}, false
	}
	form := wantForms()[parts[1]]
	numbers := strings.Fields(parts[2])
	if len(numbers) != len(form.names) {
		return impl.EvEvent{}, false
	}
	e := impl.EvEvent{Kind: form.kind}
	for k, text := range numbers {
		n, _ := strconv.Atoi(text)
		switch form.names[k] {
		case 'W':
			e.Who = n
		case 'A':
			e.At = n
		case 'N':
			e.N = n
		case 'V':
			e.V = n
		}
	}
	return e, true
}

// eventLine is what happens as the line that says it, whether or not such a line is one.
func eventLine(e impl.EvEvent) string {
	switch e.Kind {
	case impl.EvSend:
		return fmt.Sprintf("send %d %d %d", e.Who, e.At, e.N)
	case impl.EvReply:
		return fmt.Sprintf("reply %d %d %d", e.Who, e.At, e.N)
	case impl.EvHear:
		return fmt.Sprintf("hear %d", e.At)
	case impl.EvLose:
		return fmt.Sprintf("lose %d", e.At)
	case impl.EvTwice:
		return fmt.Sprintf("twice %d", e.At)
	case impl.EvBend:
		return fmt.Sprintf("bend %d %d %d", e.At, e.N, e.V)
	case impl.EvData:
		return fmt.Sprintf("data %d", e.At)
	case impl.EvWord:
		return fmt.Sprintf("word %d %d", e.Who, e.At)
	}
	return fmt.Sprintf("kind %d", e.Kind)
}

// checkEvent is promises 53 and 100 of any text: what it is read as; that this has no other line; and that nothing is one with four numbers more.
func checkEvent(t *testing.T, s string) bool {
	t.Helper()
	want, good := wantEvent(s)
	got, ok := impl.DskEvent(s)
	if got != want || ok != good {
		t.Fatalf("DskEvent(%.200q) = %v, %v", s, got, ok)
	}
	if ok && (eventLine(got) != s || got.Kind < impl.EvSend || got.Kind > impl.EvWord) {
		t.Fatalf("%q is read as %v, whose line is %q", s, got, eventLine(got))
	}
	checkNoEvent(t, s+" 1 2 3 4")
	return ok
}

func checkNoEvent(t *testing.T, s string) {
	t.Helper()
	if got, ok := impl.DskEvent(s); ok || got != (impl.EvEvent{}) {
		t.Fatalf("DskEvent(%.200q) = %v, %v", s, got, ok)
	}
}

// lineOf is a line of a form, with these numbers' texts.
func lineOf(word string, numbers ...string) string {
	return strings.Join(append([]string{word}, numbers...), " ")
}

func TestDskEventByHand(t *testing.T) {
	for s, want := range map[string]impl.EvEvent{
		"send 0 0 8":           {Kind: 1, N: 8},
		"send 1 20 12":         {Kind: 1, Who: 1, At: 20, N: 12},
		"send 9 8 7":           {Kind: 1, Who: 9, At: 8, N: 7},
		"reply 1 20 12":        {Kind: 2, Who: 1, At: 20, N: 12},
		"reply 9999 9998 9997": {Kind: 2, Who: 9999, At: 9998, N: 9997},
		"hear 0":               {Kind: 3},
		"hear 59":              {Kind: 3, At: 59},
		"lose 10":              {Kind: 4, At: 10},
		"twice 100":            {Kind: 5, At: 100},
		"bend 0 16 3":          {Kind: 6, N: 16, V: 3},
		"bend 7 26 255":        {Kind: 6, At: 7, N: 26, V: 255},
		"data 501":             {Kind: 7, At: 501},
		"data 9999":            {Kind: 7, At: 9999},
		"word 1 500":           {Kind: 8, Who: 1, At: 500},
		"word 2000 1":          {Kind: 8, Who: 2000, At: 1},
	} {
		if got, ok := impl.DskEvent(s); !ok || got != want {
			t.Errorf("DskEvent(%q) = %v, %v", s, got, ok)
		}
		if !checkEvent(t, s) {
			t.Errorf("%q is no line", s)
		}
	}
}

// Promises 53 and 100: each form, and in each number's place all numbers of one to four digits, and some of five and more.
func TestDskEventOfEachNumber(t *testing.T) {
	for word, form := range wantForms() {
		for k := range form.names {
			numbers := []string{"3", "14", "159"}[:len(form.names)]
			for n := range 10000 {
				numbers[k] = strconv.Itoa(n)
				if !checkEvent(t, lineOf(word, numbers...)) {
					t.Fatalf("%q is no line", lineOf(word, numbers...))
				}
			}
			for _, n := range []int{10000, 10001, 10010, 12345, 65536, 99999, 100000, 1 << 31, 1<<32 + 1, 1 << 40} {
				numbers[k] = strconv.Itoa(n)
				checkNoEvent(t, lineOf(word, numbers...))
			}
		}
	}
}

// Each form, with numbers of one to five digits in all places.
func TestNumbersOfEachLength(t *testing.T) {
	digits := []string{"0", "7", "10", "99", "100", "999", "1000", "9999", "10000", "99999"}
	lines := map[impl.EvEvent]string{}
	many := 0
	for word, form := range wantForms() {
		var longer func(numbers []string)
		longer = func(numbers []string) {
			if len(numbers) < len(form.names) {
				for _, n := range digits {
					longer(append(slices.Clone(numbers), n))
				}
				return
			}
			s := lineOf(word, numbers...)
			fits := !slices.ContainsFunc(numbers, func(n string) bool { return len(n) > 4 })
			if checkEvent(t, s) != fits {
				t.Fatalf("%q is a line: %v", s, !fits)
			}
			if e, ok := impl.DskEvent(s); ok {
				lines[e] = s
				many++
			}
		}
		longer(nil)
	}
	// Promise 100: of as many lines as many things are told.
	if many != 3*8*8*8+8*8+4*8 || len(lines) != many {
		t.Fatalf("%d lines say %d things", many, len(lines))
	}
}

// Needless noughts, signs, letters, nothing, and other ways to write a number, in each number's place.
func TestLinesWithNumbersThatAreNone(t *testing.T) {
	for word, form := range wantForms() {
		for k := range form.names {
			for _, n := range []string{"0", "5", "10", "999", "9999"} {
				for _, bad := range []string{
					"", " ", "0" + n, "00" + n, "000" + n, "+" + n, "-" + n, "+-" + n, "--" + n, n + "-", n + "+", n + ".", n + ".0", "." + n, n + ",", n + ";", n + "x", "x" + n, "a", "O", "l", "n", "e1", n + "e0", "0x" + n, "0b1", "1_0", "_" + n, n + "_",
					"\"" + n + "\"", "'" + n + "'", n + "\x00", "\x00" + n, n + "\n", "\n" + n, "\t" + n, n + "\t", n + "\r", n + "\xff", "\u0663", "\uff13", "\u00b2", "-0", "+0", "00", "0000", "00000", "-1", "/", ":", "WHO", "AT", "N", "V", strings.Repeat("0", 1000) + n, strings.Repeat("9", 1000), n + strings.Repeat("0", 1000), "18446744073709551616", "18446744073709551621", "-9223372036854775808",
				} {
					numbers := []string{"1", "20", "3"}[:len(form.names)]
					numbers[k] = bad
					checkNoEvent(t, lineOf(word, numbers...))
					checkEvent(t, lineOf(word, numbers...))
				}
			}
		}
	}
}

// Promise 53: each word with no number, with too few, with as many as there must be, and with up to nine too many.
func TestHowManyNumbersALineHas(t *testing.T) {
	for word, form := range wantForms() {
		for _, n := range []string{"0", "1", "21", "500", "9999"} {
			for many := range 13 {
				s := lineOf(word, slices.Repeat([]string{n}, many)...)
				if got := checkEvent(t, s); got != (many == len(form.names)) {
					t.Errorf("%q is a line: %v", s, got)
				}
			}
		}
	}
	// What has one number too many is none, though it is the line of another form behind another word.
	for _, s := range []string{"send", "send 1", "send 1 2", "send 1 2 3 4", "reply 1 2", "reply 1 2 3 4", "hear", "hear 1 2", "hear 1 2 3", "hear 1 2 3 4", "hear 1 2 3 4 5", "lose", "lose 1 2", "twice", "twice 1 2", "bend", "bend 1", "bend 1 2", "bend 1 2 3 4", "data", "data 1 2", "word", "word 1", "word 1 2 3", "word 1 2 3 4"} {
		checkNoEvent(t, s)
	}
}

// Two spaces at each place where there is one, spaces ahead and behind, and other blanks; other words, and capital letters.
func TestSpacesAndWordsOfLines(t *testing.T) {
	for word, form := range wantForms() {
		numbers := []string{"1", "20", "3"}[:len(form.names)]
		s := lineOf(word, numbers...)
		for _, blank := range []string{"  ", "   ", "\t", " \t", "\n", "\v", "\u00a0", ",", ", ", "_", "", ";", "\x00", " \x00"} {
			for i := range len(s) {
				if s[i] == ' ' {
					checkNoEvent(t, s[:i]+blank+s[i+1:])
				}
			}
			if blank != "" {
				checkNoEvent(t, blank+s)
				checkNoEvent(t, s+blank)
			}
		}
		for _, bad := range []string{" " + s, s + " ", " " + s + " ", s + "\n", s + "\r\n", s + ";", s + " " + s, s + s, s + "\n" + s, "\xef\xbb\xbf" + s, strings.ToUpper(s), strings.ToUpper(s[:1]) + s[1:], s[1:], "x" + s, word + lineOf(word, numbers...), word + "s" + s[len(word):], word[:len(word)-1] + s[len(word):], strings.Join(numbers, " ")} {
			checkNoEvent(t, bad)
		}
		for i := range word {
			checkNoEvent(t, s[:i]+strings.ToUpper(s[i:i+1])+s[i+1:])
		}
		for _, other := range []string{"", "sent", "sends", "replay", "here", "loose", "loss", "thrice", "once", "bent", "date", "words", "world", "port", "allow", "deny", "line", "said", "there", "back", "told", "halt", "kind", "0", "1", "at", "who", "ev", "evsend", "send1"} {
			checkNoEvent(t, lineOf(other, numbers...))
		}
		// Of each other word as many numbers make a line just if it has as many.
		for _, other := range formWords() {
			if got := checkEvent(t, lineOf(other, numbers...)); got != (len(wantForms()[other].names) == len(numbers)) {
				t.Errorf("%q is a line: %v", lineOf(other, numbers...), got)
			}
		}
	}
}

// The empty line, and lines of each number of bytes, 30 and 31 among them: no form is as long as may be.
func TestLinesOfEachLength(t *testing.T) {
	for _, s := range []string{"", " ", "  ", "\x00", "\xff", "\n", ";", "0", "send", "send ", "hear ", "7"} {
		checkNoEvent(t, s)
	}
	for many := range 40 {
		for _, sign := range []string{"0", "9", " ", "a", "1 ", " 1", "\x00", "\xff"} {
			for _, begin := range append(formWords(), "", "send 0 0 ", "reply 1 2 3", "hear ", "hear 1", "bend 1 2 3", "bend 1 2 ", "word 1 ", "data 5") {
				s := begin + strings.Repeat(sign, many)
				checkEvent(t, s)
				if len(s) > 20 {
					checkNoEvent(t, s)
				}
			}
		}
	}
	for _, s := range []string{"reply 1 2 " + strings.Repeat("0", 19) + "3", "reply 1 2 3" + strings.Repeat(" ", 19), strings.Repeat(" ", 24) + "hear 0", "send 10000 10000 10000 1000000", "send 1 2 " + strings.Repeat("1", 21), "send 9999 9999 9999 9999 99999"} {
		if len(s) != 30 {
			t.Fatal(s, len(s))
		}
		checkNoEvent(t, s)
		checkNoEvent(t, s+"0")
		checkNoEvent(t, s+" ")
	}
	for _, s := range []string{"hear 0", "hear 0 ", "hear ", "0", "9", " ", "send 1 2 3\n", "\x00", "word 1 500 "} {
		checkNoEvent(t, strings.Repeat(s, 30000))
	}
}

// Texts one byte away from a line, with each byte, and what is behind and ahead of each place.
func TestTextsCloseToEventLines(t *testing.T) {
	read := 0
	for _, s := range []string{"send 0 0 8", "reply 1 20 12", "hear 0", "hear 59", "lose 10", "twice 100", "bend 0 16 3", "bend 9999 9999 9999", "data 501", "word 1 500", "reply 9999 1000 9999"} {
		for i := range len(s) + 1 {
			for _, x := range []string{s[:i], s[i:], s[:i] + s[min(i+1, len(s)):]} {
				if checkEvent(t, x) {
					read++
				}
			}
			for c := range 256 {
				b := string([]byte{byte(c)})
				for _, x := range []string{s[:i] + b + s[i:], s[:i] + b + s[min(i+1, len(s)):]} {
					if checkEvent(t, x) {
						read++
					}
				}
			}
		}
	}
	if read < 500 {
		t.Fatal(read)
	}
}

// All short texts of a few signs, behind each word.
func TestEveryShortTextBehindAWord(t *testing.T) {
	read := 0
	for _, behind := range textsOf(" 019-a", 6) {
		for _, word := range []string{"send ", "hear ", "bend ", "word ", "hear", "send 1 ", ""} {
			if checkEvent(t, word+behind) {
				read++
			}
		}
	}
	if read < 500 {
		t.Fatal(read)
	}
}

// Promise 53: what each form says can happen: it turns a world in which there is room for it, and somebody who does it.
func TestWhatALineSaysCanHappen(t *testing.T) {
	for k, s := range []string{"send 0 0 12", "reply 1 3 2", "hear 0", "lose 2", "twice 3", "bend 0 9 255", "data 999", "word 1 1"} {
		e, ok := impl.DskEvent(s)
		if !ok || e.Kind != k+1 {
			t.Fatalf("DskEvent(%q) = %v, %v", s, e, ok)
		}
		w := busyWorld()
		if got := checkStep(t, w, e); sameWorld(got, w) || !impl.WldOk(got) {
			t.Errorf("%q turns nothing", s)
		}
	}
	// Numbers beyond all that there may be are ones of a line, too, and turn nothing.
	for _, s := range []string{"send 9999 0 12", "send 0 9999 12", "send 0 0 9999", "reply 2 0 1", "hear 9999", "lose 60", "twice 9999", "bend 0 9999 1", "bend 0 0 9999", "bend 0 0 256", "data 9999", "data 1000", "data 0", "word 0 9999", "word 9999 500"} {
		e, ok := impl.DskEvent(s)
		if w := busyWorld(); !ok || !sameWorld(checkStep(t, w, e), w) {
			t.Errorf("DskEvent(%q) = %v, %v", s, e, ok)
		}
	}
}

// wantTable is DskTable, end by end.
func wantTable(x impl.MapTab) []string {
	var lines []string
	if wantOk(x) {
		for k, e := range x.Ends {
			lines = append(lines, fmt.Sprintf("port %d of %d %d", 500+k, e.Addr, e.Port))
		}
	}
	return lines
}

// Promise 55: tables that are ok, the empty one and one of MapMost ends among them.
func TestDskTable(t *testing.T) {
	for _, x := range okTabs() {
		if got := impl.DskTable(x); !slices.Equal(got, wantTable(x)) || len(got) != len(x.Ends) {
			t.Errorf("DskTable(%v) = %q", x, got)
		}
	}
	if got := impl.DskTable(tab()); len(got) != 0 {
		t.Error(got)
	}
	for _, c := range []struct {
		x    impl.MapTab
		want []string
	}{
		{tab(end(1, 7)), []string{"port 500 of 1 7"}},
		{tab(end(1, 7), end(2, 3)), []string{"port 500 of 1 7", "port 501 of 2 3"}},
		{tab(end(9, 999), end(1, 1), end(3, 500), end(3, 501), end(2, 21), end(9, 10)), []string{"port 500 of 9 999", "port 501 of 1 1", "port 502 of 3 500", "port 503 of 3 501", "port 504 of 2 21", "port 505 of 9 10"}},
	} {
		if got := impl.DskTable(c.x); !slices.Equal(got, c.want) {
			t.Errorf("DskTable(%v) = %q", c.x, got)
		}
	}
	for e := range 9 * 999 {
		x := tab(end(1+e/999, 1+e%999))
		if got := impl.DskTable(x); !slices.Equal(got, wantTable(x)) {
			t.Fatalf("DskTable(%v) = %q", x, got)
		}
	}
}

// Each way in which a table is not ok: it has no lines, though its first ends would have some.
func TestDskTableOfWhatIsNotOk(t *testing.T) {
	for _, x := range badTabs() {
		if got := impl.DskTable(x); len(got) != 0 {
			t.Errorf("DskTable(%v) = %q", x, got)
		}
	}
}

// Promise 55: of tables that differ, in one end, in how many there are, or in their order, no two have the same lines.
func TestTablesThatDifferHaveLinesThatDiffer(t *testing.T) {
	tabs := okTabs()
	for _, x := range okTabs() {
		for k := range x.Ends {
			for _, e := range []impl.EndPoint{end(1, 7), end(1, 77), end(7, 1), end(7, 7), end(9, 998), end(8, 999), end(2, 3), end(2, 33), end(1, 500)} {
				y := tab(slices.Clone(x.Ends)...)
				y.Ends[k] = e
				tabs = append(tabs, y, tab(slices.Delete(slices.Clone(y.Ends), k, k+1)...))
			}
			for i := range k {
				y := tab(slices.Clone(x.Ends)...)
				y.Ends[i], y.Ends[k] = y.Ends[k], y.Ends[i]
				tabs = append(tabs, y)
			}
		}
	}
	seen := map[string]impl.MapTab{}
	for _, x := range tabs {
		if !wantOk(x) {
			continue
		}
		lines := impl.DskTable(x)
		all := strings.Join(lines, "\n")
		if y, is := seen[all]; len(lines) != len(x.Ends) || is && !sameTab(x, y) {
			t.Fatalf("%v and %v have the lines %q", x, y, lines)
		}
		seen[all] = x
	}
	if len(seen) < 100 {
		t.Fatal(len(seen))
	}
}

// wantBoard is DskBoard, part by part.
func wantBoard(w impl.WldWorld) []string {
	if !wantWldOk(w) {
		return nil
	}
	lines := append(wantTable(w.Box.Table), fmt.Sprintf("on their way %d", len(w.Net)))
	for k, s := range w.Sides {
		lines = append(lines, fmt.Sprintf("said %d %d %d", k, s.Acked, s.Heard), fmt.Sprintf("there %d %s", k, s.Got), fmt.Sprintf("back %d %s", k, s.Came))
	}
	for _, e := range w.Told {
		lines = append(lines, fmt.Sprintf("told %d %d", e.Addr, e.Port))
	}
	return lines
}

// checkBoard is promise 54 of any world.
func checkBoard(t *testing.T, w impl.WldWorld) {
	t.Helper()
	got := impl.DskBoard(w)
	if !slices.Equal(got, wantBoard(w)) {
		t.Fatalf("the board of %s is %q", brief(w), got)
	}
	many := 0
	if impl.WldOk(w) {
		many = len(w.Box.Table.Ends) + 1 + 3*2 + len(w.Told)
	}
	if len(got) != many {
		t.Fatalf("the board of %s has %d lines", brief(w), len(got))
	}
}

func checkLinesOf(t *testing.T, got []string, want ...string) {
	t.Helper()
	if !slices.Equal(got, want) {
		t.Errorf("the lines are %q, not %q", got, want)
	}
}

// A world at its beginning, and behind some events, step by step: with ports, with messages on their way, with words.
func TestDskBoardByHand(t *testing.T) {
	w := plainWorld()
	first := []string{"said 0 0 0", "there 0 ", "back 0 ", "said 1 0 0", "there 1 ", "back 1 "}
	checkLinesOf(t, impl.DskBoard(w), append([]string{"on their way 0"}, first...)...)
	w = impl.WldRun(w, []impl.EvEvent{event(impl.EvSend, 0, 0, 12, 0), event(impl.EvTwice, 0, 0, 0, 0), event(impl.EvSend, 1, 0, 12, 0)})
	checkLinesOf(t, impl.DskBoard(w), append([]string{"on their way 3"}, first...)...)
	hear := event(impl.EvHear, 0, 0, 0, 0)
	w = impl.WldStep(w, hear)
	checkLinesOf(t, impl.DskBoard(w), append([]string{"port 500 of 1 7", "port 501 of 2 3", "on their way 4"}, first...)...)
	w = impl.WldRun(w, []impl.EvEvent{hear, hear, hear, hear, hear, hear, hear, hear})
	checkLinesOf(t, impl.DskBoard(w), "port 500 of 1 7", "port 501 of 2 3", "port 502 of 2 7", "on their way 0", "said 0 0 0", "there 0 hi;port 50 501;", "back 0 ", "said 1 0 0", "there 1 port 50 501;", "back 1 ")
	w = impl.WldRun(w, []impl.EvEvent{event(impl.EvReply, 0, 0, 6, 0), hear, hear, event(impl.EvSend, 0, 12, 0, 0), hear, hear, event(impl.EvData, 0, 501, 0, 0), hear, hear, event(impl.EvWord, 1, 500, 0, 0), hear, hear, event(impl.EvData, 0, 501, 0, 0)})
	checkLinesOf(t, impl.DskBoard(w), "port 500 of 1 7", "port 501 of 2 3", "port 502 of 2 7", "on their way 1", "said 0 12 3", "there 0 hi;port 50 501;", "back 0 ok;", "said 1 0 0", "there 1 port 50 501;", "back 1 ", "told 2 3", "told 1 7")
	checkLinesOf(t, impl.DskBoard(busyWorld()), "port 500 of 1 7", "port 501 of 2 3", "port 502 of 2 7", "on their way 5", "said 0 3 1", "there 0 hi;port 50 501;", "back 0 ok;", "said 1 0 0", "there 1 ", "back 1 ", "told 2 3", "told 1 7", "told 2 3")
}

// Promise 54: worlds at the edges of what may be, all worlds of all walks, and worlds that are not ok.
func TestDskBoard(t *testing.T) {
	for _, w := range okWorlds() {
		checkBoard(t, w)
		if len(impl.DskBoard(w)) == 0 {
			t.Fatalf("%v has no board", w)
		}
	}
	eachWorld(func(w impl.WldWorld, _ [2]bool) { checkBoard(t, w) })
	for _, w := range badWorlds() {
		checkBoard(t, w)
		if got := impl.DskBoard(w); len(got) != 0 {
			t.Fatalf("the board of %s is %q", brief(w), got)
		}
	}
}

// What has come may be any bytes: each stands in its line as it is, in one line.
func TestDskBoardOfAnyBytes(t *testing.T) {
	for _, s := range []string{"", " ", "\n", "a\nb", "\x00", "\xff\xfe", "told 1 7", ";;;", strings.Repeat("\n", 240), "%d%s", "\u00e9"} {
		w := busyWorld()
		w.Sides[0].Got, w.Sides[1].Came = s, s
		checkBoard(t, w)
		if got := impl.DskBoard(w); len(got) != 13 || got[5] != "there 0 "+s || got[9] != "back 1 "+s {
			t.Fatalf("of %q there is %q", s, got)
		}
	}
}

// deskOf is a world's beginning, and lines, as DskRun takes them.
type deskOf struct {
	rules []string
	out   string
	sides []string
	lines []string
}

func (d deskOf) run() []string {
	return impl.DskRun(d.rules, d.out, d.sides, d.lines)
}

// with is this with other lines.
func (d deskOf) with(lines ...string) deskOf {
	d.lines = lines
	return d
}

// wantWorld is the world at its beginning, or else the one line that is told.
func (d deskOf) wantWorld() (impl.WldWorld, string) {
	var rules []impl.RulRule
	for _, s := range d.rules {
		r, ok := wantRule(s)
		if !ok {
			return impl.WldWorld{}, "rules"
		}
		rules = append(rules, r)
	}
	out, good := wantRead(d.out)
	if len(d.sides) != 6 || !good {
		return impl.WldWorld{}, "world"
	}
	w := impl.WldWorld{Box: boxWith(rules, tab()), Out: out}
	for k := 0; k < 6; k += 3 {
		in, ok := wantRead(d.sides[k])
		good = good && ok
		w.Sides = append(w.Sides, worldSide(in, d.sides[k+1], d.sides[k+2]))
	}
	if !good || !wantWldOk(w) {
		return impl.WldWorld{}, "world"
	}
	return w, ""
}

// want is DskRun by what the other chapters' tests want.
func (d deskOf) want() []string {
	w, fault := d.wantWorld()
	if fault == "" && len(d.lines) > 200 {
		fault = "long"
	}
	if fault != "" {
		return []string{fault}
	}
	var told []string
	for k, line := range d.lines {
		e, ok := wantEvent(line)
		if !ok {
			told = append(told, fmt.Sprintf("line %d", k+1))
			continue
		}
		w = wantStep(w, e)
	}
	return append(told, wantBoard(w)...)
}

// check holds DskRun against what is wanted.
func (d deskOf) check(t *testing.T) {
	t.Helper()
	if got := d.run(); !slices.Equal(got, d.want()) {
		t.Fatalf("%s tells %s, not %s", brief(d), brief(got), brief(d.want()))
	}
}

// checkTells asks whether just these lines are told, and that they are what is wanted.
func (d deskOf) checkTells(t *testing.T, want ...string) {
	t.Helper()
	if got := d.run(); !slices.Equal(got, want) || !slices.Equal(d.want(), want) {
		t.Errorf("%s tells %s, not %s", brief(d), brief(got), brief(want))
	}
}

// exampleDesk is the document's example.
func exampleDesk() deskOf {
	lines := "send 0 0 8\nhear 0\nhear 0\nsend 0 8 12\ntwice 0\nbend 0 16 3\nhear 0\nhear 0\nhear 0\nreply 0 0 12\nhear 0\nhear 0\nreply 0 12 12\nhear 0\nhear 0\ndata 501\nhear 0\nhear 0\nhear 0\nsend 1 0 12\nhear 0"
	return deskOf{
		rules: []string{"deny 2 2 100 100 1 999"},
		out:   "100 21",
		sides: []string{"1 7", "hi;port 2 3;bye;", "ok;port 50 501;", "2 7", "port 2 3;", "no;"},
		lines: strings.Split(lines, "\n"),
	}
}

// emptyBoard is the board of a world at its beginning.
func emptyBoard() []string {
	return []string{"on their way 0", "said 0 0 0", "there 0 ", "back 0 ", "said 1 0 0", "there 1 ", "back 1 "}
}

// The document's example, line by line.
func TestDskRunOfTheExample(t *testing.T) {
	d := exampleDesk()
	want := []string{"port 500 of 1 7", "port 501 of 2 3", "on their way 0", "said 0 16 0", "there 0 hi;port 50 501;bye;", "back 0 ok;port 2 3;", "said 1 0 0", "there 1 ", "back 1 ", "told 2 3"}
	d.checkTells(t, want...)
	for many := range len(d.lines) + 1 {
		d.with(d.lines[:many]...).check(t)
	}
	one, named := "port 500 of 1 7", "port 501 of 2 3"
	side := []string{"said 1 0 0", "there 1 ", "back 1 "}
	for many, begin := range map[int][]string{
		0:  {"on their way 0", "said 0 0 0", "there 0 ", "back 0 "},
		1:  {"on their way 1", "said 0 0 0", "there 0 ", "back 0 "},
		2:  {one, "on their way 1", "said 0 0 0", "there 0 ", "back 0 "},
		3:  {one, "on their way 0", "said 0 0 0", "there 0 hi;", "back 0 "},
		5:  {one, "on their way 2", "said 0 0 0", "there 0 hi;", "back 0 "},
		7:  {one, "on their way 1", "said 0 0 0", "there 0 hi;", "back 0 "},
		8:  {one, named, "on their way 2", "said 0 0 0", "there 0 hi;", "back 0 "},
		9:  {one, named, "on their way 1", "said 0 0 0", "there 0 hi;port 50 501;", "back 0 "},
		12: {one, named, "on their way 1", "said 0 0 0", "there 0 hi;port 50 501;bye;", "back 0 "},
		16: {one, named, "on their way 2", "said 0 12 0", "there 0 hi;port 50 501;bye;", "back 0 ok;"},
	} {
		d.with(d.lines[:many]...).checkTells(t, append(begin, side...)...)
	}
}

// A rule's text that is none, at each place; and that this is told ahead of all else.
func TestDskRunOfRulesThatAreNone(t *testing.T) {
	good := []string{"deny 2 2 100 100 1 999", "allow 1 9 100 109 1 999", "deny 1 1 100 100 21 21", "allow 3 3 100 100 1 1", "deny 9 9 109 109 999 999"}
	for _, bad := range []string{"", " ", "deny", "none", "deny 2 2 100 100 1", "deny 2 2 100 100 1 1000", "deny 2 1 100 100 1 999", "deny 0 2 100 100 1 999", "Deny 2 2 100 100 1 999", "deny 2 2 100 100 1 999 ", " deny 2 2 100 100 1 999", "deny 2 2 100 100 1 0999", "send 0 0 8", "deny 2 2 100 100 1 999;", "\x00", strings.Repeat("deny 2 2 100 100 1 999", 10000)} {
		for many := range 8 {
			for at := range many + 1 {
				d := exampleDesk()
				d.rules = slices.Insert(slices.Repeat(good, 2)[:many], at, bad)
				d.checkTells(t, "rules")
				d.out, d.sides = "1 7", nil
				d.checkTells(t, "rules")
				d.lines = make([]string, 201)
				d.checkTells(t, "rules")
			}
		}
	}
	for many := range 6 {
		d := exampleDesk()
		d.rules = good[:many]
		d.check(t)
		if len(d.run()) < 7 {
			t.Errorf("%d rules are told as %q", many, d.run())
		}
	}
}

// Rules of which none is none, but which are too many: there is no world of them.
func TestDskRunOfTooManyRules(t *testing.T) {
	for _, many := range []int{6, 7, 10, 256 + 5, 1 << 16} {
		d := exampleDesk()
		d.rules = slices.Repeat([]string{"allow 1 9 100 109 1 999"}, many)
		d.checkTells(t, "world")
		d.lines = nil
		d.checkTells(t, "world")
		d.lines = make([]string, 500)
		d.checkTells(t, "world")
		d.rules = append(d.rules, "allow 1 9 100 109 1 0")
		d.checkTells(t, "rules")
	}
	d := exampleDesk().with()
	d.rules = slices.Repeat([]string{"deny 1 9 100 109 1 999"}, 5)
	d.checkTells(t, emptyBoard()...)
}

// An end outside that is none, and one that is not outside, or whose streams name nobody.
func TestDskRunOfWhoIsOutside(t *testing.T) {
	for _, out := range []string{
		"", " ", "100", "100 ", "100 21 ", " 100 21", "100  21", "0100 21", "100 021", "+100 21", "100 +21", "100 21;", "100 21 1", "100:21", "100 1000", "100 0", "99 21", "110 21", "100 -21", "x", "port 100 21", strings.Repeat("100 21", 10000),
		"1 21", "9 21", "50 21", "50 500", "1 7", "100 20", "100 22", "100 1", "109 999", "100 210",
	} {
		d := exampleDesk()
		d.out = out
		d.checkTells(t, "world")
		d.lines = make([]string, 201)
		d.checkTells(t, "world")
	}
	for addr := 100; addr <= 109; addr++ {
		d := exampleDesk()
		d.out = fmt.Sprintf("%d 21", addr)
		d.check(t)
		d.with().checkTells(t, emptyBoard()...)
	}
}

// Texts for those inside that are too few or too many, whatever these are.
func TestDskRunOfHowManyTextsThereAre(t *testing.T) {
	d := exampleDesk()
	all := slices.Repeat(d.sides, 40)
	plain := slices.Repeat([]string{"1 7", "", "", "2 7", "", "", "3 7", "", "", "4 7", "", ""}, 20)
	for many := range 40 {
		for _, texts := range [][]string{all[:many], plain[:many], slices.Repeat([]string{""}, many), all[1 : many+1], plain[2 : many+2], plain[3 : many+3]} {
			d.sides = texts
			d.check(t)
			if many != 6 {
				d.checkTells(t, "world")
			}
		}
	}
	for _, texts := range [][]string{nil, {}, all, {"1 7", "2 7"}, {"1 7", "hi;", "2 7", "no;"}, {"1 7", "", "", "2 7", ""}, {"1 7", "", "", "2 7", "", "", ""}} {
		d.sides = texts
		d.checkTells(t, "world")
	}
}

// Texts for those inside that are no ends, no ends inside, or no streams, at each place; and two that are the same.
func TestDskRunOfWhoIsInside(t *testing.T) {
	for _, k := range []int{0, 3} {
		for _, bad := range []string{"", " ", "1", "1 ", " 1 7", "1 7 ", "01 7", "1 07", "+1 7", "1  7", "1 7;", "1 0", "1 1000", "0 7", "10 7", "50 7", "50 500", "100 21", "109 7", "port 1 7", "x", "-1 7", "1 -7", "\x00", strings.Repeat("1 7", 10000)} {
			d := exampleDesk()
			d.sides[k] = bad
			d.checkTells(t, "world")
			d.lines = make([]string, 201)
			d.checkTells(t, "world")
		}
		for _, bad := range noStreams() {
			for behind := 1; behind <= 2; behind++ {
				d := exampleDesk()
				d.sides[k+behind] = bad
				d.checkTells(t, "world")
			}
		}
		for _, good := range []string{"", ";", "x", "port 1 7", strings.Repeat(";", 120), strings.Repeat("port 9 999;", 10) + "port 1 7", strings.Repeat("z", 16), strings.Repeat("none;", 24)} {
			for behind := 1; behind <= 2; behind++ {
				d := exampleDesk()
				d.sides[k+behind] = good
				d.check(t)
				d.with().checkTells(t, emptyBoard()...)
			}
		}
		d := exampleDesk()
		d.sides[k] = d.sides[3-k]
		d.checkTells(t, "world")
	}
	for _, ends := range [][2]string{{"1 7", "1 8"}, {"1 7", "2 7"}, {"9 999", "1 1"}, {"9 1", "1 9"}, {"2 7", "1 7"}} {
		d := exampleDesk()
		d.sides[0], d.sides[3] = ends[0], ends[1]
		d.check(t)
		d.with().checkTells(t, emptyBoard()...)
	}
}

// No lines, DskMaxLines lines, and one more, of lines that are ones and of lines that are none.
func TestHowManyLinesThereMayBe(t *testing.T) {
	d := exampleDesk()
	for _, none := range [][]string{nil, {}} {
		d.with(none...).checkTells(t, emptyBoard()...)
	}
	hears := slices.Repeat([]string{"hear 0"}, 1000)
	halts := slices.Repeat([]string{"halt"}, 1000)
	sends := slices.Repeat([]string{"send 0 0 12", "hear 0", "hear 0", "send 0 12 12", "twice 0"}, 200)
	for _, many := range []int{1, 2, 199, 200} {
		d.with(hears[:many]...).checkTells(t, emptyBoard()...)
		var told []string
		for k := range many {
			told = append(told, "line "+strconv.Itoa(k+1))
		}
		d.with(halts[:many]...).checkTells(t, append(told, emptyBoard()...)...)
		d.with(sends[:many]...).check(t)
		d.with(slices.Repeat([]string{"send 1 0 12"}, many)...).check(t)
		d.with(slices.Repeat([]string{"data 999", "hear 7", "", "word 0 500"}, many)[:many]...).check(t)
	}
	for _, many := range []int{201, 202, 256, 399, 400, 401, 1000} {
		d.with(hears[:many]...).checkTells(t, "long")
		d.with(halts[:many]...).checkTells(t, "long")
		d.with(sends[:many]...).checkTells(t, "long")
		d.with(make([]string, many)...).checkTells(t, "long")
	}
	d.with(slices.Repeat(hears, 300)...).checkTells(t, "long")
	// Lines of any length are counted as others are.
	d.with(slices.Repeat([]string{strings.Repeat("hear 0", 1000)}, 201)...).checkTells(t, "long")
	d.with("hear 0", strings.Repeat("hear 0", 100000), "hear 0").checkTells(t, append([]string{"line 2"}, emptyBoard()...)...)
}

// What is told of rules comes ahead of what is told of the world, and this ahead of what is told of too many lines.
func TestWhatIsToldFirst(t *testing.T) {
	for k := range 8 {
		d := exampleDesk()
		want := ""
		if k&1 != 0 {
			d.lines = slices.Repeat([]string{"hear 0"}, 201)
			want = "long"
		}
		if k&2 != 0 {
			d.sides = d.sides[:5]
			want = "world"
		}
		if k&4 != 0 {
			d.rules = append(d.rules, "deny")
			want = "rules"
		}
		d.check(t)
		if want != "" {
			d.checkTells(t, want)
		}
	}
}

// Promise 56: lines that are none, at the beginning, in the midst and at the end: each has its number, by its place among all, and makes no difference to the others.
func TestLinesThatAreNone(t *testing.T) {
	d := exampleDesk()
	board := d.run()
	for _, bad := range []string{"", " ", "halt", "hear", "hear 01", "hear 0 ", "send 0 0", "HEAR 0", "hear 10000", "line 1", "data 0501", "bend 0 0", "\n", "\x00", "hear 0\n", strings.Repeat("7", 1000)} {
		for at := range len(d.lines) + 1 {
			x := d.with(slices.Insert(slices.Clone(d.lines), at, bad)...)
			x.checkTells(t, append([]string{fmt.Sprintf("line %d", at+1)}, board...)...)
		}
		mid, last := len(d.lines)/2, len(d.lines)
		lines := slices.Insert(slices.Clone(d.lines), last, bad, bad)
		lines = slices.Insert(lines, mid, bad)
		lines = slices.Insert(lines, 0, bad, bad, bad)
		told := []string{"line 1", "line 2", "line 3", fmt.Sprintf("line %d", mid+4), fmt.Sprintf("line %d", last+5), fmt.Sprintf("line %d", last+6)}
		d.with(lines...).checkTells(t, append(told, board...)...)
	}
}

// lineForDesk is what happens as a line, as often as not one that is none.
func lineForDesk(r *rand.Rand, w impl.WldWorld, k int) (string, impl.EvEvent, bool) {
	s := eventLine(someEvent(r, w, habitOf(k)))
	if r.Intn(12) == 0 {
		s = []string{"", "halt", s + " ", s + " 1 2 3 4", strings.ToUpper(s), s[1:], "hear 00", "hear"}[r.Intn(8)]
	}
	e, ok := wantEvent(s)
	return s, e, ok
}

// deskOfWorld is a world's beginning as texts.
func deskOfWorld(w impl.WldWorld) deskOf {
	d := deskOf{out: fmt.Sprintf("%d %d", w.Out.Addr, w.Out.Port)}
	for _, r := range w.Box.Rules {
		d.rules = append(d.rules, wantRuleText(r))
	}
	for _, s := range w.Sides {
		d.sides = append(d.sides, fmt.Sprintf("%d %d", s.In.Addr, s.In.Port), s.Says, s.Backs)
	}
	return d
}

// Promise 56, of many worlds and lines: DskRun is DskBoard of the world behind what the lines say, in one piece or in parts; and each line that is none is told ahead of that.
func TestARunByLines(t *testing.T) {
	r := rand.New(rand.NewSource(56))
	var wrong, right int
	for k := range 120 {
		first := firstWorld(r)
		d := deskOfWorld(first)
		w := first
		var events []impl.EvEvent
		var lines, told []string
		for range r.Intn(201) {
			s, e, ok := lineForDesk(r, w, k)
			d.lines = append(d.lines, s)
			if !ok {
				told = append(told, fmt.Sprintf("line %d", len(d.lines)))
				continue
			}
			lines = append(lines, s)
			events = append(events, e)
			w = impl.WldStep(w, e)
		}
		if got := d.run(); !slices.Equal(got, slices.Concat(told, impl.DskBoard(w))) {
			t.Fatalf("%v tells %q", d, got)
		}
		board := d.with(lines...).run()
		at := r.Intn(len(events) + 1)
		parts := impl.WldRun(impl.WldRun(first, events[:at]), events[at:])
		if !slices.Equal(board, impl.DskBoard(impl.WldRun(first, events))) || !slices.Equal(board, impl.DskBoard(parts)) {
			t.Fatalf("%v tells %q", d, board)
		}
		if k%6 == 0 {
			d.check(t)
		}
		wrong += len(told)
		right += len(lines)
	}
	if wrong < 500 || right < 5000 {
		t.Fatal(wrong, right)
	}
}

// roomy is a list with room behind its end, full of texts that stand nowhere else; and a way to ask whether all of that is as it was.
func roomy(list []string) ([]string, func() bool) {
	all := append(slices.Clone(list), "behind", "hear 0", "deny", "far")
	was := slices.Clone(all)
	return all[:len(list)], func() bool { return slices.Equal(all, was) }
}

// turnTexts turns a whole list, and what room there is behind it.
func turnTexts(list []string) {
	list = list[:cap(list)]
	for i := range list {
		list[i] = "turned"
	}
}

// No list that is handed in is turned, nor what is behind its end; to write to an answer turns no argument and no later answer; and what is behind an end is not read.
func TestDeskSharesNoMemory(t *testing.T) {
	d := exampleDesk()
	desks := []deskOf{d, d.with(), d.with("halt", "hear 0", "halt"), d.with(make([]string, 200)...), d.with(make([]string, 201)...), {}, {rules: []string{"x"}}, {rules: d.rules, out: d.out, sides: d.sides[:3]}}
	for _, x := range desks {
		want := x.run()
		rules, same1 := roomy(x.rules)
		sides, same2 := roomy(x.sides)
		lines, same3 := roomy(x.lines)
		mine := deskOf{rules: rules, out: x.out, sides: sides, lines: lines}
		same := func() bool { return same1() && same2() && same3() }
		got, again := mine.run(), mine.run()
		turnTexts(got)
		if !same() || !slices.Equal(again, want) || !slices.Equal(mine.run(), want) {
			t.Fatalf("%v tells %q, not %q", mine, again, want)
		}
		turnTexts(rules)
		turnTexts(sides)
		turnTexts(lines)
		if !slices.Equal(again, want) {
			t.Fatalf("%v tells %q, not %q", mine, again, want)
		}
	}
}

// The same, of tables and worlds.
func TestBoardsShareNoMemory(t *testing.T) {
	for _, w := range append(okWorlds()[:20], badWorlds()[:40]...) {
		mine, same := roomyWorld(w)
		want, wantLines := wantBoard(w), wantTable(w.Box.Table)
		board, table := impl.DskBoard(mine), impl.DskTable(mine.Box.Table)
		again, tableAgain := impl.DskBoard(mine), impl.DskTable(mine.Box.Table)
		turnTexts(board)
		turnTexts(table)
		if !same() {
			t.Fatalf("%s was turned", brief(w))
		}
		turnWorld(mine)
		if !slices.Equal(again, want) || !slices.Equal(tableAgain, wantLines) {
			t.Fatalf("%s has %q and %q", brief(w), again, tableAgain)
		}
	}
}

// Calls at the same time, of the same lists, answer as one by itself; and none leaves a goroutine behind.
func TestRunsAtTheSameTime(t *testing.T) {
	before := runtime.NumGoroutine()
	d := exampleDesk()
	want := d.want()
	var wait sync.WaitGroup
	for range 8 {
		wait.Go(func() {
			for range 50 {
				if got := d.run(); !slices.Equal(got, want) {
					t.Errorf("%v tells %q", d, got)
				}
			}
		})
	}
	wait.Wait()
	for tries := 0; tries < 500 && runtime.NumGoroutine() > before; tries++ {
		time.Sleep(time.Millisecond)
	}
	if now := runtime.NumGoroutine(); now > before {
		t.Fatalf("there were %d goroutines, and now there are %d", before, now)
	}
}
