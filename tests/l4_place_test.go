package tests

import (
	"math"
	"slices"
	"strings"
	"testing"

	"loop.example/hatchway/impl"
)

func span(from, to, outAt, outTo int, plain bool) impl.PosSpan {
	return impl.PosSpan{From: from, To: to, OutAt: outAt, OutTo: outTo, Plain: plain}
}

// places is each place up to one, and places below 0, past that one, and as far as a number goes.
func places(last int) []int {
	list := []int{math.MinInt, math.MinInt + 1, -1 << 32, -1000, -12, -2, -1}
	for at := range last + 4 {
		list = append(list, at)
	}
	return append(list, last+1000, 1<<32, math.MaxInt-1000, math.MaxInt-1, math.MaxInt)
}

// saidAt is what a list says at a place: below 0 as at 0, past its end as at the last one.
func saidAt(list []int, place int) int {
	return list[max(0, min(place, len(list)-1))]
}

// linesSideBySide is the lines of two texts, as many of each as the one with fewer has.
func linesSideBySide(s, far string) ([]string, []string) {
	lines, _ := linesByBytes(s)
	fars, _ := linesByBytes(far)
	both := min(len(lines), len(fars))
	return lines[:both], fars[:both]
}

// endOf is where lines that lie one behind the other end, each with its sign.
func endOf(lines []string) int {
	return len(strings.Join(lines, "")) + len(lines)
}

// wantPairs is PosPairs, each span by itself, from where all lines ahead of it end.
func wantPairs(s, far string) []impl.PosSpan {
	lines, fars := linesSideBySide(s, far)
	var spans []impl.PosSpan
	for k := range lines {
		spans = append(spans, span(endOf(lines[:k]), endOf(lines[:k+1]), endOf(fars[:k]), endOf(fars[:k+1]), lines[k] == fars[k]))
	}
	return spans
}

// wantOuts is where on the other side each byte's line begins, byte by byte, and where all end.
func wantOuts(s, far string) []int {
	lines, fars := linesSideBySide(s, far)
	var outs []int
	for k, line := range lines {
		for range line + ";" {
			outs = append(outs, endOf(fars[:k]))
		}
	}
	return append(outs, endOf(fars))
}

// wantTheres is up to where all is there at each byte on the other side, byte by byte, and of all.
func wantTheres(s, far string) []int {
	lines, fars := linesSideBySide(s, far)
	var theres []int
	for k, line := range fars {
		for i := range len(line) + 1 {
			if line != lines[k] {
				i = 0
			}
			theres = append(theres, endOf(lines[:k])+i)
		}
	}
	return append(theres, endOf(lines))
}

// checkPairs is promise 32 of two texts.
func checkPairs(t *testing.T, s, far string) {
	t.Helper()
	got := impl.PosPairs(s, far)
	if !slices.Equal(got, wantPairs(s, far)) {
		t.Fatalf("PosPairs(%.130q, %.130q) = %v", s, far, got)
	}
	if len(got) != min(strings.Count(s, ";"), strings.Count(far, ";")) {
		t.Fatalf("PosPairs(%.130q, %.130q) = %v", s, far, got)
	}
	checkSpans(t, got, s, far)
}

// checkSpans asks of spans that they lie one behind the other, and that each is its line with its sign, on both sides.
func checkSpans(t *testing.T, spans []impl.PosSpan, s, far string) {
	t.Helper()
	var last impl.PosSpan
	for _, p := range spans {
		if p.From != last.To || p.OutAt != last.OutTo {
			t.Fatalf("%v of %.130q and %.130q is not behind %v", p, s, far, last)
		}
		line, ended := strings.CutSuffix(s[p.From:p.To], ";")
		there, endedThere := strings.CutSuffix(far[p.OutAt:p.OutTo], ";")
		if !ended || !endedThere || strings.Contains(line+there, ";") {
			t.Fatalf("%v of %.130q and %.130q is %q and %q", p, s, far, line, there)
		}
		if p.Plain != (line == there) || p.Plain && p.To-p.From != p.OutTo-p.OutAt {
			t.Fatalf("%v of %.130q and %.130q is %q and %q", p, s, far, line, there)
		}
		last = p
	}
}

// checkPlaces holds what is told of two texts at each place, and at places that are none, against a list; and it never falls.
func checkPlaces(t *testing.T, s, far string, want []int, told func(place int) int) {
	t.Helper()
	last := 0
	for _, place := range places(max(len(s), len(far))) {
		got := told(place)
		if got != saidAt(want, place) || got < last {
			t.Fatalf("%.130q is there %.130q: at %d it is %d, not %d; ahead of that %d", s, far, place, got, saidAt(want, place), last)
		}
		last = got
	}
}

// checkThere is promise 61 of two texts, and what PosThere says at each place.
func checkThere(t *testing.T, s, far string) {
	t.Helper()
	checkPlaces(t, s, far, wantTheres(s, far), func(place int) int { return impl.PosThere(s, far, place) })
	lines, _ := linesSideBySide(s, far)
	if none, all := impl.PosThere(s, far, 0), impl.PosThere(s, far, len(far)); none != 0 || all != endOf(lines) {
		t.Fatalf("of nothing of %.130q %d bytes of %.130q are there, of all %d", far, none, s, all)
	}
}

// Promise 32.
func TestPosPairsOfTexts(t *testing.T) {
	for _, c := range []struct {
		s, far string
		want   []impl.PosSpan
	}{
		{"", "", nil},
		{"a", "a", nil},
		{"a;", "", nil},
		{"", "a;", nil},
		{"a;", "a", nil},
		{"a", "a;", nil},
		{";", ";", []impl.PosSpan{span(0, 1, 0, 1, true)}},
		{";;", ";", []impl.PosSpan{span(0, 1, 0, 1, true)}},
		{";", "a;", []impl.PosSpan{span(0, 1, 0, 2, false)}},
		{"a;", ";", []impl.PosSpan{span(0, 2, 0, 1, false)}},
		{"a;", "a;", []impl.PosSpan{span(0, 2, 0, 2, true)}},
		{"ab;", "cd;", []impl.PosSpan{span(0, 3, 0, 3, false)}},
		{"a;b;", "a;", []impl.PosSpan{span(0, 2, 0, 2, true)}},
		{"a;", "a;b;", []impl.PosSpan{span(0, 2, 0, 2, true)}},
		{"a;b", "a;b;", []impl.PosSpan{span(0, 2, 0, 2, true)}},
		{"a;b;", "a;b", []impl.PosSpan{span(0, 2, 0, 2, true)}},
		{"a;b", "a;b", []impl.PosSpan{span(0, 2, 0, 2, true)}},
		{"a;x", "a;y", []impl.PosSpan{span(0, 2, 0, 2, true)}},
		{"a;b;c;", "a;b;c;", []impl.PosSpan{span(0, 2, 0, 2, true), span(2, 4, 2, 4, true), span(4, 6, 4, 6, true)}},
		{"a;b;c;", "a;bbb;c;", []impl.PosSpan{span(0, 2, 0, 2, true), span(2, 4, 2, 6, false), span(4, 6, 6, 8, true)}},
		{"a;bbb;c;", "a;;c;", []impl.PosSpan{span(0, 2, 0, 2, true), span(2, 6, 2, 3, false), span(6, 8, 3, 5, true)}},
		{";;x;", ";y;x;", []impl.PosSpan{span(0, 1, 0, 1, true), span(1, 2, 1, 3, false), span(2, 4, 3, 5, true)}},
		{"hi;port 2 3;ok;by", "hi;port 50 500;ok;", []impl.PosSpan{span(0, 3, 0, 3, true), span(3, 12, 3, 15, false), span(12, 15, 15, 18, true)}},
		{"A;\x00\xff;", "A;\xff;z", []impl.PosSpan{span(0, 2, 0, 2, true), span(2, 5, 2, 4, false)}},
		{"\u00e4;", "\u00e4;", []impl.PosSpan{span(0, 3, 0, 3, true)}},
		{"a line longer than a line is;b;", "b;b;", []impl.PosSpan{span(0, 29, 0, 2, false), span(29, 31, 2, 4, true)}},
	} {
		if got := impl.PosPairs(c.s, c.far); !slices.Equal(got, c.want) {
			t.Errorf("PosPairs(%q, %q) = %v", c.s, c.far, got)
		}
		checkPairs(t, c.s, c.far)
		checkThere(t, c.s, c.far)
	}
}

// Promises 32 and 61, of all pairs of short texts, most of which are no streams.
func TestPairsOfEveryTwoShortTexts(t *testing.T) {
	texts := append(textsOf("a;B", 4), ";;;;;", "a;a;a;", "aaa;a;aa", "\xff;\xff", "port 1 2;", "port 50 500;;a")
	for _, s := range texts {
		for _, far := range texts {
			checkPairs(t, s, far)
			checkThere(t, s, far)
		}
	}
}

func TestPairsOfLongTexts(t *testing.T) {
	const many = 20000
	long, short := strings.Repeat("a;bc;", many), strings.Repeat("a;b;", many)
	got := impl.PosPairs(long, short+"rest")
	checkSpans(t, got, long, short+"rest")
	if len(got) != 2*many || got[2*many-1] != span(5*many-3, 5*many, 4*many-2, 4*many, false) {
		t.Fatal(len(got))
	}
	for _, c := range [][2]int{{-1, 0}, {0, 0}, {1, 1}, {4*many - 5, 5*many - 8}, {4*many - 6, 5*many - 8}, {4*many - 4, 5*many - 5}, {4*many - 3, 5*many - 4}, {4*many - 2, 5*many - 3}, {4*many - 1, 5*many - 3}, {4 * many, 5 * many}, {math.MaxInt, 5 * many}} {
		if n := impl.PosThere(long, short, c[0]); n != c[1] {
			t.Errorf("at %d all up to %d is there", c[0], n)
		}
	}
	one := strings.Repeat("x", 1<<20) + ";"
	if n := impl.PosThere(one, one, 1<<19); n != 1<<19 {
		t.Error(n)
	}
}

// A line that is the same is there byte by byte; one that is another is there whole, or not at all, whatever its length.
func TestPosThereInTheMidstOfLines(t *testing.T) {
	for _, c := range []struct {
		s, far string
		want   []int
	}{
		{"", "", []int{0, 0}},
		{"abc", "abc", []int{0, 0, 0, 0, 0}},
		{"abc;", "abc;", []int{0, 1, 2, 3, 4, 4}},
		{"abc;", "abd;", []int{0, 0, 0, 0, 4, 4}},
		{"abc;", "ab;", []int{0, 0, 0, 4, 4}},
		{"ab;", "abc;", []int{0, 0, 0, 0, 3, 3}},
		{"abc;", ";", []int{0, 4, 4}},
		{";", "abc;", []int{0, 0, 0, 0, 1, 1}},
		{"a;b;", "a;cc;", []int{0, 1, 2, 2, 2, 4, 4}},
		{"a;b;", "cc;b;", []int{0, 0, 0, 2, 3, 4, 4}},
		{"a;b;c;", "a;b;", []int{0, 1, 2, 3, 4, 4}},
		{"a;b;", "a;b;c;", []int{0, 1, 2, 3, 4, 4, 4, 4}},
		{"a;bb", "a;bb;", []int{0, 1, 2, 2, 2, 2}},
		{"a;bb;", "a;bb", []int{0, 1, 2, 2, 2, 2}},
		{"x;yy;zzz;", "yyy;yy;z;", []int{0, 0, 0, 0, 2, 3, 4, 5, 5, 9, 9}},
		{"A;\xff\x00;", "A;\xff\x00;", []int{0, 1, 2, 3, 4, 5, 5}},
	} {
		for place, want := range c.want {
			if n := impl.PosThere(c.s, c.far, place); n != want {
				t.Errorf("PosThere(%q, %q, %d) = %d", c.s, c.far, place, n)
			}
		}
		checkThere(t, c.s, c.far)
	}
}

// Promise 25, by hand: with room and without, of ends that have a port and that have none.
func TestPosSpansOfStreams(t *testing.T) {
	full := tab(endsFrom(1, 6)...)
	for _, c := range []struct {
		x    impl.MapTab
		s    string
		want []impl.PosSpan
	}{
		{impl.MapTab{}, "", nil},
		{impl.MapTab{}, "port 2 3", nil},
		{impl.MapTab{}, ";", []impl.PosSpan{span(0, 1, 0, 1, true)}},
		{impl.MapTab{}, "port 2 3;", []impl.PosSpan{span(0, 9, 0, 12, false)}},
		{impl.MapTab{}, "port 9 999;", []impl.PosSpan{span(0, 11, 0, 12, false)}},
		{impl.MapTab{}, "hi;port 2 3;ok;", []impl.PosSpan{span(0, 3, 0, 3, true), span(3, 12, 3, 15, false), span(12, 15, 15, 18, true)}},
		{impl.MapTab{}, "hi;port 2 3;port 2", []impl.PosSpan{span(0, 3, 0, 3, true), span(3, 12, 3, 15, false)}},
		{impl.MapTab{}, "port 50 500;none;", []impl.PosSpan{span(0, 12, 0, 12, true), span(12, 17, 12, 17, true)}},
		{tab(end(2, 3)), "port 2 3;;", []impl.PosSpan{span(0, 9, 0, 12, false), span(9, 10, 12, 13, true)}},
		{full, "port 3 7;", []impl.PosSpan{span(0, 9, 0, 12, false)}},
		{full, "port 7 7;", []impl.PosSpan{span(0, 9, 0, 5, false)}},
		{full, "port 9 999;none;port 1 7;x", []impl.PosSpan{span(0, 11, 0, 5, false), span(11, 16, 5, 10, true), span(16, 25, 10, 22, false)}},
		{tab(endsFrom(1, 5)...), "port 7 7;port 8 7;port 7 7;", []impl.PosSpan{span(0, 9, 0, 12, false), span(9, 18, 12, 17, false), span(18, 27, 17, 29, false)}},
	} {
		if got := impl.PosSpans(c.x, c.s); !slices.Equal(got, c.want) {
			t.Errorf("PosSpans(%v, %q) = %v", c.x, c.s, got)
		}
	}
}

// Promise 25.
func TestPosSpansOfEachStream(t *testing.T) {
	names := namesOf()
	longer, shorter, same := 0, 0, 0
	eachStream(t, func(x impl.MapTab, s string) {
		_, far := wantStream(names, x, s)
		got := impl.PosSpans(x, s)
		if !slices.Equal(got, wantPairs(s, far)) || len(got) != strings.Count(s, ";") {
			t.Fatalf("PosSpans(%v, %q) = %v", x, s, got)
		}
		checkSpans(t, got, s, far)
		for _, p := range got {
			switch inside, there := p.To-p.From, p.OutTo-p.OutAt; {
			case p.Plain:
				same++
			case inside < there:
				longer++
			case inside > there:
				shorter++
			}
		}
	})
	if longer < 100 || shorter < 100 || same < 100 {
		t.Fatal(longer, shorter, same)
	}
}

// The places of one stream, in the midst of lines that are longer there, the same, and shorter.
func TestPosOutAndPosBackByHand(t *testing.T) {
	x := tab(endsFrom(1, 6)...)
	const s = "ab;port 3 7;;port 9 999;c;x"
	const far = "ab;port 50 502;;none;c;"
	outs := slices.Concat(slices.Repeat([]int{0}, 3), slices.Repeat([]int{3}, 9), []int{15}, slices.Repeat([]int{16}, 11), []int{21, 21, 23, 23, 23})
	backs := slices.Concat([]int{0, 1, 2}, slices.Repeat([]int{3}, 12), []int{12}, slices.Repeat([]int{13}, 5), []int{24, 25, 26, 26, 26})
	if _, got := impl.RwrStream(x, s); got != far || len(outs) != len(s)+2 || len(backs) != len(far)+3 {
		t.Fatal(got, len(outs), len(backs))
	}
	checkPlaces(t, s, far, outs, func(place int) int { return impl.PosOut(x, s, place) })
	checkPlaces(t, s, far, backs, func(place int) int { return impl.PosBack(x, s, place) })
}

// Promises 3, 26 and 82, at each place of each stream.
func TestPlacesOfEachStream(t *testing.T) {
	names := namesOf()
	eachStream(t, func(x impl.MapTab, s string) {
		_, far := wantStream(names, x, s)
		checkOut(t, x, s, far)
		checkBack(t, x, s, far)
		for _, p := range impl.PosSpans(x, s) {
			if n := impl.PosOut(x, s, p.From); n != p.OutAt {
				t.Fatalf("%v of %q with %v begins there at %d", p, s, x, n)
			}
			if n := impl.PosBack(x, s, p.OutTo); n != p.To {
				t.Fatalf("%v of %q with %v ends inside at %d", p, s, x, n)
			}
			if n := impl.PosBack(x, s, p.OutAt); n != p.From {
				t.Fatalf("%v of %q with %v begins inside at %d", p, s, x, n)
			}
		}
	})
}

// checkOut is promise 26 of a stream that goes outside as far.
func checkOut(t *testing.T, x impl.MapTab, s, far string) {
	t.Helper()
	checkPlaces(t, s, far, wantOuts(s, far), func(place int) int {
		got := impl.PosOut(x, s, place)
		behind := place > strings.LastIndex(s, ";")
		if got > len(far) || behind && place >= 0 && got != len(far) {
			t.Fatalf("PosOut(%v, %q, %d) = %d, and all lines end there at %d", x, s, place, got, len(far))
		}
		return got
	})
}

// checkBack is promise 3 of a stream that goes outside as far.
func checkBack(t *testing.T, x impl.MapTab, s, far string) {
	t.Helper()
	checkPlaces(t, s, far, wantTheres(s, far), func(place int) int {
		got := impl.PosBack(x, s, place)
		if place >= 0 {
			checkIsThere(t, x, s, far, got, place)
		}
		return got
	})
	if got := impl.PosBack(x, s, len(far)); got != strings.LastIndex(s, ";")+1 {
		t.Fatalf("of all of %q is inside, as %q, just %d there", far, s, got)
	}
}

// checkIsThere asks of all bytes of a stream ahead of one that they are outside ahead of a place: lines as they go, and a part of a line as it is.
func checkIsThere(t *testing.T, x impl.MapTab, s, far string, back, place int) {
	t.Helper()
	_, gone := impl.RwrStream(x, s[:back])
	_, part := linesByBytes(s[:back])
	if len(gone)+len(part) > place || !strings.HasPrefix(far[:min(place, len(far))], gone+part) {
		t.Fatalf("at %d of %q all of %q is there, which goes as %q and %q", place, far, s[:back], gone, part)
	}
}

// Promise 62: of streams that name no end inside, whoever has a port.
func TestPlacesWhereAllIsTheSame(t *testing.T) {
	found := 0
	check := func(x impl.MapTab, s string) {
		lines, rest := impl.StrLines(s)
		for _, line := range lines {
			if _, says := impl.LinSays(line); says {
				return
			}
		}
		found++
		all := s[:len(s)-len(rest)]
		if _, far := impl.RwrStream(x, s); far != all {
			t.Fatalf("%q goes with %v as %q", s, x, far)
		}
		for _, place := range places(len(all)) {
			if got := impl.PosBack(x, s, place); got != max(0, min(place, len(all))) {
				t.Fatalf("PosBack(%v, %q, %d) = %d", x, s, place, got)
			}
			begin := strings.LastIndex(all[:max(0, min(place, len(all)))], ";") + 1
			if got := impl.PosOut(x, s, place); got != begin {
				t.Fatalf("PosOut(%v, %q, %d) = %d", x, s, place, got)
			}
		}
	}
	eachStream(t, check)
	for _, x := range okTabs() {
		for _, s := range []string{"a", "port 2 3", "hi;port 2 3", ";port 1 7", "port 50 500;ok;", "none;;none;x", "port 100 21;hi", "port 02 3;port 2 3 ;", strings.Repeat("a;", 60), strings.Repeat(strings.Repeat("z", 16)+";", 7) + "z"} {
			check(x, s)
		}
	}
	if found < 300 {
		t.Fatal(found)
	}
}

// Of a stream without lines, and of none at all, each place is the beginning.
func TestPlacesOfNoSpans(t *testing.T) {
	for _, x := range okTabs() {
		for _, s := range []string{"", "a", "port 2 3", "port 1 7", strings.Repeat("a", 16)} {
			checkNoPlaces(t, x, s)
		}
	}
	for _, far := range []string{"", "a", "a;", "a;b;", strings.Repeat("a;", 300)} {
		for _, place := range places(len(far)) {
			for _, s := range []string{"", "a", "port 2 3", "A\xff", strings.Repeat("a", 300)} {
				if n, m := impl.PosThere(s, far, place), impl.PosThere(far, s, place); n != 0 || m != 0 {
					t.Fatalf("PosThere of %.60q and %.60q at %d is %d, or %d", s, far, place, n, m)
				}
			}
		}
	}
}

// checkNoPlaces asks of a table and a text, that are not ok or have no lines, for no spans, and 0 at each place.
func checkNoPlaces(t *testing.T, x impl.MapTab, s string) {
	t.Helper()
	if got := impl.PosSpans(x, s); len(got) != 0 {
		t.Errorf("PosSpans(%v, %.130q) = %v", x, s, got)
	}
	for _, place := range places(24) {
		if n, m := impl.PosOut(x, s, place), impl.PosBack(x, s, place); n != 0 || m != 0 {
			t.Errorf("at %d of %.130q with %v PosOut is %d, PosBack %d", place, s, x, n, m)
		}
	}
}

func TestPlacesOfWhatIsNotOk(t *testing.T) {
	for i, x := range badTabs() {
		streams := []string{"hi;", "hi;port 1 7;ok;", "port 8 8;x"}
		if i%20 == 0 {
			streams = append(streams, "", ";", "a", "port 50 500;", strings.Repeat("a;", 60), "A;", strings.Repeat(";", 121))
		}
		for _, s := range streams {
			checkNoPlaces(t, x, s)
		}
	}
	for _, x := range okTabs() {
		for _, bad := range []string{"A", "Port 1 7", "\x00", "\xff", "port +1 7", strings.Repeat("a", 17)} {
			for _, s := range []string{bad, bad + ";", "hi;" + bad, "hi;port 8 8;" + bad + ";ok;", bad + ";hi;port 1 7;"} {
				checkNoPlaces(t, x, s)
			}
		}
		for _, s := range []string{strings.Repeat(";", 121), strings.Repeat("a;", 60) + "a", strings.Repeat("port 8 8;", 1000)} {
			checkNoPlaces(t, x, s)
		}
	}
}

// spansOf is all lists that chapter 4 answers of a table and a stream, each twice.
func spansOf(x impl.MapTab, s, far string) [][]impl.PosSpan {
	var lists [][]impl.PosSpan
	for range 2 {
		lists = append(lists, impl.PosSpans(x, s), impl.PosPairs(s, far), impl.PosPairs(s, s))
	}
	impl.PosOut(x, s, len(s)/2)
	impl.PosBack(x, s, len(far)/2)
	impl.PosThere(s, far, len(far)/2)
	return lists
}

// No table is turned, in its list or behind the list's end; to write to an answer, or to add to it, turns no other one; and what was written does not come again.
func TestSpansShareNoMemory(t *testing.T) {
	for _, x := range append(okTabs(), tab(endsFrom(1, 7)...), tab(end(1, 1), end(1, 1))) {
		for _, s := range []string{"hi;port 2 3;ok;x", "port 8 8;port 8 9;port 9 9;", ";;;;;", "", "A;"} {
			roomy := append(make([]impl.EndPoint, 0, len(x.Ends)+8), x.Ends...)
			all := roomy[:cap(roomy)]
			for i := len(roomy); i < len(all); i++ {
				all[i] = end(3, 300+i)
			}
			before := slices.Clone(all)
			lists := spansOf(impl.MapTab{Ends: roomy}, s, "hi;port 50 500;ok;")
			want := spansOf(x, s, "hi;port 50 500;ok;")
			for i := range lists {
				lists[i] = append(lists[i], span(-7, -7, -7, -7, true))
				spare := lists[i][:cap(lists[i])]
				for k := range spare {
					spare[k] = span(-8, -8, -8, -8, true)
				}
				if rest := lists[i+1:]; !slices.EqualFunc(rest, want[i+1:], slices.Equal[[]impl.PosSpan]) {
					t.Fatalf("to write to an answer turned %v to %v", want[i+1:], rest)
				}
			}
			if !slices.Equal(all, before) {
				t.Fatalf("%v became %v", before, all)
			}
			if again := spansOf(x, s, "hi;port 50 500;ok;"); !slices.EqualFunc(again, want, slices.Equal[[]impl.PosSpan]) {
				t.Fatalf("%v became %v", want, again)
			}
		}
	}
}
