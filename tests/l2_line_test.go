package tests

import (
	"math"
	"math/rand"
	"regexp"
	"slices"
	"strconv"
	"strings"
	"testing"

	"loop.example/hatchway/impl"
)

var (
	lineForm   = regexp.MustCompile(`\A[a-z0-9 ]{0,16}\z`)
	streamForm = regexp.MustCompile(`\A(?:[a-z0-9 ]{0,16};)*[a-z0-9 ]{0,16}\z`)
)

// checkLines holds StrLines of a text against its lines, and its rest, told by hand.
func checkLines(t *testing.T, s string, lines []string, rest string) {
	t.Helper()
	gotLines, gotRest := impl.StrLines(s)
	if !slices.Equal(gotLines, lines) || gotRest != rest {
		t.Errorf("StrLines(%.60q) = %.200q, %.60q", s, gotLines, gotRest)
	}
}

// linesByBytes is what StrLines has to answer, gathered byte by byte.
func linesByBytes(s string) ([]string, string) {
	var lines []string
	var line []byte
	for i := range len(s) {
		if s[i] != ';' {
			line = append(line, s[i])
			continue
		}
		lines = append(lines, string(line))
		line = nil
	}
	return lines, string(line)
}

// checkIsItsLines is promise 19 of a text.
func checkIsItsLines(t *testing.T, s string) {
	t.Helper()
	lines, rest := impl.StrLines(s)
	again := ""
	for _, line := range lines {
		if strings.Contains(line, ";") {
			t.Errorf("a line of %.60q has the sign: %q", s, line)
		}
		again += line + ";"
	}
	if again+rest != s || strings.Contains(rest, ";") {
		t.Errorf("%.60q is %.200q and %.60q", s, lines, rest)
	}
	lines, rest = linesByBytes(s)
	checkLines(t, s, lines, rest)
}

// checkBeginnings is promise 79 of a text, and promise 19 of each of its beginnings.
func checkBeginnings(t *testing.T, s string) {
	t.Helper()
	lines, _ := impl.StrLines(s)
	for i := range len(s) + 1 {
		checkIsItsLines(t, s[:i])
		first, _ := impl.StrLines(s[:i])
		if len(first) != strings.Count(s[:i], ";") || !slices.Equal(first, lines[:len(first)]) {
			t.Errorf("%.60q begins with the lines %.200q, not %.200q", s, lines, first)
		}
	}
}

// checkOneBehindOther is promise 57 of two texts.
func checkOneBehindOther(t *testing.T, a, b string) {
	t.Helper()
	linesA, restA := impl.StrLines(a)
	linesB, restB := impl.StrLines(b)
	if restA != "" {
		t.Errorf("%.60q has the rest %.60q", a, restA)
	}
	checkLines(t, a+b, slices.Concat(linesA, linesB), restB)
}

// Promise 19: streams, and texts that are none.
func TestStrLinesOfTexts(t *testing.T) {
	for _, c := range []struct {
		s     string
		lines []string
		rest  string
	}{
		{"", nil, ""},
		{"a", nil, "a"},
		{";", []string{""}, ""},
		{";;", []string{"", ""}, ""},
		{";;;", []string{"", "", ""}, ""},
		{"a;", []string{"a"}, ""},
		{";a", []string{""}, "a"},
		{"a;b", []string{"a"}, "b"},
		{"a;b;", []string{"a", "b"}, ""},
		{"a;;b", []string{"a", ""}, "b"},
		{"a;;", []string{"a", ""}, ""},
		{" ; ; ", []string{" ", " "}, " "},
		{"hi;port 2 3;bye;", []string{"hi", "port 2 3", "bye"}, ""},
		{"hi;port 2 3;by", []string{"hi", "port 2 3"}, "by"},
		{"A;\x00;\xff", []string{"A", "\x00"}, "\xff"},
		{"\xc3;\xa4", []string{"\xc3"}, "\xa4"},
		{"a\nb;c:d,e\r", []string{"a\nb"}, "c:d,e\r"},
		{"\uff1b;\u037e", []string{"\uff1b"}, "\u037e"},
		{"this line is longer than any;and so is what is behind it", []string{"this line is longer than any"}, "and so is what is behind it"},
	} {
		checkLines(t, c.s, c.lines, c.rest)
		checkIsItsLines(t, c.s)
		checkBeginnings(t, c.s)
	}
}

// Promises 19 and 79, of every short text of a few signs.
func TestStrLinesOfEveryShortText(t *testing.T) {
	for _, s := range textsOf("a; \xff", 6) {
		checkBeginnings(t, s)
	}
}

// Promise 57.
func TestStrLinesOfTwoTexts(t *testing.T) {
	texts := append(textsOf("a;A", 4), "port 2 3;", "port 2 3;hi", strings.Repeat("x;", 100), strings.Repeat(";", 300), strings.Repeat("y", 300))
	ended := 0
	for _, a := range texts {
		if a != "" && !strings.HasSuffix(a, ";") {
			continue
		}
		ended++
		for _, b := range texts {
			checkOneBehindOther(t, a, b)
		}
	}
	if ended < 10 {
		t.Fatal(ended)
	}
}

func TestStrLinesOfLongTexts(t *testing.T) {
	const many = 200000
	long := strings.Repeat("a", many)
	checkLines(t, long, nil, long)
	checkLines(t, long+";", []string{long}, "")
	checkLines(t, ";"+long, []string{""}, long)
	lines, rest := impl.StrLines(strings.Repeat("b;", many) + "c")
	if len(lines) != many || rest != "c" || lines[0] != "b" || lines[many-1] != "b" {
		t.Error(len(lines), rest)
	}
	lines, rest = impl.StrLines(strings.Repeat(";", many))
	if len(lines) != many || rest != "" || strings.Join(lines, "") != "" {
		t.Error(len(lines), rest)
	}
}

// An answer is new memory: to change one turns no other, before or behind it.
func TestStrLinesAnswersNewMemory(t *testing.T) {
	const s = "a;b;c;d"
	first, _ := impl.StrLines(s)
	second, _ := impl.StrLines(s)
	spare := first[:cap(first)]
	for i := range spare {
		spare[i] = "turned"
	}
	if !slices.Equal(second, []string{"a", "b", "c"}) {
		t.Error(second)
	}
	checkLines(t, s, []string{"a", "b", "c"}, "d")
}

// Just small letters, digits and the space may stand in a line, wherever; in a stream the sign that ends one may, too.
func TestLineBytes(t *testing.T) {
	const good = "abcdefghijklmnopqrstuvwxyz0123456789 "
	for c := range 256 {
		b := string([]byte{byte(c)})
		want := strings.Contains(good, b)
		for _, s := range []string{b, b + "a", "a" + b, "a" + b + "z", strings.Repeat(b, 16), strings.Repeat("a", 15) + b, b + strings.Repeat("9", 15)} {
			if got := impl.LinOk(s); got != want {
				t.Errorf("LinOk(%q) = %v", s, got)
			}
			for _, stream := range []string{s, s + ";", "x;" + s, s + ";x", "x;" + s + ";", ";;" + s + ";y;"} {
				if got := impl.StrOk(stream); got != (want || b == ";") {
					t.Errorf("StrOk(%q) = %v", stream, got)
				}
			}
		}
	}
	for _, s := range []string{"\u00e4", "\u00df", "\uff41", "\u0661", "\u00a0", "\u2003", "\u0131", "\u017f", "\ufffd", "\uff1b", "e\u0301"} {
		if impl.LinOk(s) || impl.StrOk(s) || impl.StrOk(s+";") || impl.StrOk("a;"+s) {
			t.Errorf("%q is ok", s)
		}
	}
}

func TestLineSizes(t *testing.T) {
	for _, b := range []string{"a", "z", "0", "9", " "} {
		for size := range 40 {
			s := strings.Repeat(b, size)
			want := size <= 16
			if got := impl.LinOk(s); got != want {
				t.Errorf("LinOk of %d bytes %q is %v", size, b, got)
			}
			for _, stream := range []string{s, s + ";", "a;" + s, s + ";a", "a;;" + s + ";;a"} {
				if got := impl.StrOk(stream); got != want {
					t.Errorf("StrOk(%q) = %v", stream, got)
				}
			}
		}
	}
	if impl.LinOk(strings.Repeat("a", 1<<16)) || impl.LinOk(strings.Repeat("a", 16+256)) {
		t.Error("a long line is ok")
	}
}

func TestStreamSizes(t *testing.T) {
	full := strings.Repeat(strings.Repeat("k", 16)+";", 7) // 119 bytes
	for _, c := range []struct {
		s    string
		want bool
	}{
		{"", true},
		{full, true},
		{full + "k", true},
		{full + ";", true},
		{full + "kk", false},
		{full + "k;", false},
		{full + ";;", false},
		{full + full, false},
		{strings.Repeat(";", 119), true},
		{strings.Repeat(";", 120), true},
		{strings.Repeat(";", 121), false},
		{strings.Repeat(";", 120+256), false},
		{strings.Repeat(";", 1<<16), false},
		{strings.Repeat("ab;", 40), true},
		{strings.Repeat("ab;", 40) + "a", false},
		{strings.Repeat("ab;", 39) + "abc", true},
		{strings.Repeat("ab;", 39) + "abcd", false},
		{strings.Repeat("a;", 52) + strings.Repeat("b", 16), true},
		{strings.Repeat("a;", 51) + strings.Repeat("b", 17), false},
		{strings.Repeat("a", 120), false},
	} {
		if got := impl.StrOk(c.s); got != c.want {
			t.Errorf("StrOk(%.130q) of %d bytes = %v", c.s, len(c.s), got)
		}
	}
}

// What is behind the last sign is a line as each other part, and so is each part ahead of it.
func TestStreamsWithPartsThatAreNoLines(t *testing.T) {
	good := []string{"", "a", " ", "port 2 3", strings.Repeat("a", 16)}
	bad := []string{"A", "a\n", "-", "\x00", "\xff", "a:b", "port 2 3 ,", strings.Repeat("a", 17)}
	for _, g := range good {
		for _, s := range []string{g, g + ";", "x;" + g, "x;y;" + g, g + ";x;" + g} {
			if !impl.StrOk(s) {
				t.Errorf("%q is no stream", s)
			}
		}
		for _, b := range bad {
			for _, s := range []string{b, b + ";", g + ";" + b, g + ";" + g + ";" + b, b + ";" + g, g + ";" + b + ";" + g, g + ";" + b + ";"} {
				if impl.StrOk(s) {
					t.Errorf("%q is a stream", s)
				}
			}
		}
	}
}

// someText is some text that is a stream, or almost one.
func someText(r *rand.Rand) string {
	const good, bad = "ab z09 ", ";;A\n\xff\x00-:{/@`"
	var b strings.Builder
	for range r.Intn(12) {
		for range []int{0, 1, 3, 8, 14, 15, 16, 16, 17}[r.Intn(9)] {
			b.WriteByte(good[r.Intn(len(good))])
		}
		if r.Intn(40) == 0 {
			b.WriteByte(bad[r.Intn(len(bad))])
		}
		b.WriteByte(';')
	}
	s := b.String()
	if r.Intn(3) == 0 {
		s = strings.TrimSuffix(s, ";")
	}
	return s
}

// Promises 20 and 78: parts of streams and of lines are such.
func TestPartsOfStreamsAndLines(t *testing.T) {
	r := rand.New(rand.NewSource(20))
	found := [2]int{}
	for range 4000 {
		s := someText(r)
		want := len(s) <= 120 && streamForm.MatchString(s)
		if got := impl.StrOk(s); got != want {
			t.Fatalf("StrOk(%q) = %v", s, got)
		}
		checkIsItsLines(t, s)
		if !want {
			found[0]++
			continue
		}
		found[1]++
		for i := range len(s) + 1 {
			if !impl.StrOk(s[:i]) {
				t.Fatalf("%q is a stream, %q is none", s, s[:i])
			}
		}
		lines, rest := impl.StrLines(s)
		for _, line := range append(lines, rest) {
			checkLine(t, line)
		}
	}
	if found[0] < 500 || found[1] < 500 {
		t.Fatal(found)
	}
}

// checkLine is promise 78 of a text that has to be a line.
func checkLine(t *testing.T, s string) {
	t.Helper()
	if strings.Contains(s, ";") || !lineForm.MatchString(s) {
		t.Errorf("%q is taken as a line", s)
	}
	for i := range len(s) + 1 {
		if !impl.LinOk(s[:i]) {
			t.Errorf("%q is no line", s[:i])
		}
		if impl.LinOk(s[:i] + ";" + s[i:]) {
			t.Errorf("%q with a sign at %d is a line", s, i)
		}
	}
}

func TestLinPortOfEachKind(t *testing.T) {
	for s, e := range map[string]impl.EndPoint{
		"port 1 1":     end(1, 1),
		"port 9 999":   end(9, 999),
		"port 2 3":     end(2, 3),
		"port 50 1":    end(50, 1),
		"port 50 501":  end(50, 501),
		"port 50 999":  end(50, 999),
		"port 100 21":  end(100, 21),
		"port 109 999": end(109, 999),
	} {
		if got := impl.LinPort(e); got != s {
			t.Errorf("LinPort(%v) = %q", e, got)
		}
	}
	for _, e := range []impl.EndPoint{
		{}, end(0, 1), end(1, 0), end(10, 1), end(9, 1000), end(49, 1), end(51, 1), end(50, 0), end(50, 1000),
		end(99, 21), end(110, 21), end(100, 0), end(109, 1000), end(-1, 1), end(1, -1), end(-50, 500),
		end(math.MinInt, 1), end(1, math.MinInt), end(math.MaxInt, math.MaxInt), end(1<<32+1, 1),
	} {
		if got := impl.LinPort(e); got != "" {
			t.Errorf("LinPort(%v) = %q", e, got)
		}
	}
}

// Promises 21, 30, 80 and 95, of every end that there is, and of numbers close to one.
func TestLinesOfEveryEnd(t *testing.T) {
	ends := map[string]impl.EndPoint{}
	for addr := -2; addr <= 112; addr++ {
		for port := -2; port <= 1002; port++ {
			e := end(addr, port)
			s := "port " + strconv.Itoa(addr) + " " + strconv.Itoa(port)
			checkNames(t, s)
			if wantSide(addr) == nowhere || port < 1 || port > 999 {
				s = ""
			}
			if got := impl.LinPort(e); got != s {
				t.Fatalf("LinPort(%v) = %q", e, got)
			}
			if s != "" {
				ends[s] = e
				checkLine(t, s)
			}
		}
	}
	if len(ends) != 20*999 {
		t.Fatal(len(ends))
	}
}

// checkNames holds LinSays and LinBox of a text against what wantRead, which tries all ends, says of it.
func checkNames(t *testing.T, s string) {
	t.Helper()
	var wantEnd impl.EndPoint
	wantPort := 0
	if text, ok := strings.CutPrefix(s, "port "); ok {
		switch e, _ := wantRead(text); wantSide(e.Addr) {
		case inside:
			wantEnd = e
		case box:
			wantPort = e.Port
		}
	}
	e, says := impl.LinSays(s)
	if e != wantEnd || says != (wantEnd != impl.EndPoint{}) {
		t.Errorf("LinSays(%.60q) = %v, %v", s, e, says)
	}
	port, named := impl.LinBox(s)
	if port != wantPort || named != (wantPort != 0) {
		t.Errorf("LinBox(%.60q) = %v, %v", s, port, named)
	}
	if says && named {
		t.Errorf("%q names two", s)
	}
	if says && (impl.LinPort(e) != s || !impl.LinOk(s) || !impl.EndInside(e)) {
		t.Errorf("%q is no line that names %v", s, e)
	}
	if named && (impl.LinPort(end(50, port)) != s || !impl.LinOk(s)) {
		t.Errorf("%q is no line that names %v", s, port)
	}
}

// Promises 21 and 30: a text one byte away from a line that names an end names just what it says.
func TestTextsCloseToLinesThatName(t *testing.T) {
	const signs = "0159 ;+-apt_x\x00\xff\n."
	for _, s := range []string{
		"port 1 1", "port 9 999", "port 2 30", "port 5 21",
		"port 50 1", "port 50 500", "port 50 999", "port 100 21", "port 109 7",
	} {
		checkNames(t, s)
		for i := range len(s) + 1 {
			checkNames(t, s[:i])
			checkNames(t, s[i:])
			for _, c := range []byte(signs) {
				checkNames(t, s[:i]+string([]byte{c})+s[i:])
				if i < len(s) {
					checkNames(t, s[:i]+string([]byte{c})+s[i+1:])
				}
			}
			if i < len(s) {
				checkNames(t, s[:i]+s[i+1:])
			}
			if i+1 < len(s) {
				checkNames(t, s[:i]+s[i+1:i+2]+s[i:i+1]+s[i+2:])
			}
		}
	}
}

func TestTextsThatNameNothing(t *testing.T) {
	for _, s := range []string{
		"", " ", "port", "port ", "port  ", "port 1", "port 1 ", "port 50", "port 50 ", "1 1", "50 500", " 1 1",
		"Port 1 1", "PORT 1 1", "ports 1 1", "por 1 1", "pport 1 1", "part 1 1", "port1 1", "port50 500", "port\t1 1", "port\u00a01 1",
		" port 1 1", "port  1 1", "port 1  1", "port 1 1 ", "port 1 1  ", " port 50 500", "port  50 500", "port 50  500", "port 50 500 ",
		"port 01 1", "port 1 01", "port 050 500", "port 50 0500", "port 00 1", "port 50 00",
		"port +1 1", "port 1 +1", "port -1 1", "port 1 -1", "port +50 500", "port 50 +500", "port -50 500", "port 50 -500", "port -0 1",
		"port 0 1", "port 1 0", "port 10 1", "port 49 1", "port 51 1", "port 50 0", "port 50 1000", "port 1 1000", "port 99 1", "port 110 1",
		"port 100 21", "port 109 999", "port 100 500",
		"port 1 1;", ";port 1 1", "port 50 500;", ";port 50 500", "port 1;1", "port;1 1",
		"port 1 1 1", "port 50 500 1", "port 1 1 port 1 1", "port port 1 1", "port 1 1\n", "port 50 500\n", "port 1 1\x00", "\x00port 1 1",
		"port 1,1", "port 1:1", "port 1.0 1", "port 0x1 1", "port 1 1e1", "port 1_0 1", "port a 1", "port 1 a", "port \u0661 1", "port \xff 1",
		"port 4294967297 1", "port 1 4294967297", "port 18446744073709551617 1", "port 50 18446744073709552116",
		"none", "say 1 1", "port " + strings.Repeat("0", 300) + "1 1", strings.Repeat("port ", 300) + "1 1", strings.Repeat("9", 300),
	} {
		if e, ok := impl.LinSays(s); ok || e != (impl.EndPoint{}) {
			t.Errorf("LinSays(%.60q) = %v, %v", s, e, ok)
		}
		if p, ok := impl.LinBox(s); ok || p != 0 {
			t.Errorf("LinBox(%.60q) = %v, %v", s, p, ok)
		}
	}
}
