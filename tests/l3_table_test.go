package tests

import (
	"math"
	"math/rand"
	"slices"
	"strconv"
	"strings"
	"testing"

	"loop.example/hatchway/impl"
)

func tab(ends ...impl.EndPoint) impl.MapTab {
	return impl.MapTab{Ends: ends}
}

func sameTab(a, b impl.MapTab) bool {
	return slices.Equal(a.Ends, b.Ends)
}

// endsFrom is ends inside at one port, from an address on.
func endsFrom(addr, many int) []impl.EndPoint {
	var ends []impl.EndPoint
	for k := range many {
		ends = append(ends, end(addr+k, 7))
	}
	return ends
}

// okTabs is a table of each size that may be, and of ends at all edges.
func okTabs() []impl.MapTab {
	tabs := []impl.MapTab{
		{Ends: []impl.EndPoint{}},
		tab(end(2, 3), end(1, 9)),
		tab(end(1, 9), end(2, 3)),
		tab(end(9, 999), end(1, 1), end(1, 999), end(9, 1)),
		tab(end(5, 1), end(5, 2), end(5, 3), end(5, 4), end(5, 5)),
		tab(end(3, 500), end(3, 501), end(3, 505), end(3, 506), end(2, 3), end(9, 9)),
	}
	for many := range impl.MapMost + 1 {
		tabs = append(tabs, tab(endsFrom(1, many)...))
	}
	return tabs
}

// badTabs is tables that are not ok: too many ends, one that is not inside, one that stands twice, at each place.
func badTabs() []impl.MapTab {
	tabs := []impl.MapTab{
		tab(endsFrom(1, 7)...),
		tab(endsFrom(1, 9)...),
		tab(slices.Repeat(endsFrom(1, 1), 7)...),
		tab(slices.Repeat(endsFrom(1, 9), 100)...),
		tab(end(1, 1), end(1, 2), end(1, 3), end(1, 4), end(1, 5), end(1, 6), end(1, 7), end(1, 8)),
	}
	for many := range impl.MapMost {
		for at := range many + 1 {
			for _, e := range notInside() {
				tabs = append(tabs, tab(slices.Insert(endsFrom(1, many), at, e)...))
			}
			for k := range many {
				tabs = append(tabs, tab(slices.Insert(endsFrom(1, many), at, end(1+k, 7))...))
			}
		}
	}
	return tabs
}

// notInside is ends outside, ends of the box's, and what is no end.
func notInside() []impl.EndPoint {
	return []impl.EndPoint{
		{}, end(0, 1), end(-1, 1), end(10, 1), end(49, 1), end(51, 500), end(99, 1), end(110, 1),
		end(1, 0), end(9, 1000), end(1, -1), end(50, 0), end(100, 1000),
		end(50, 1), end(50, 500), end(50, 999), end(100, 21), end(109, 7), end(109, 999),
		end(math.MinInt, math.MinInt), end(math.MaxInt, math.MaxInt), end(1<<32+1, 1), end(1, 1<<32+1),
	}
}

// wantOk is MapOk, asked end by end.
func wantOk(t impl.MapTab) bool {
	for k, e := range t.Ends {
		if k >= 6 || wantSide(e.Addr) != inside || e.Port < 1 || e.Port > 999 || slices.Contains(t.Ends[:k], e) {
			return false
		}
	}
	return true
}

// wantPut is MapPut by a search through the list.
func wantPut(t impl.MapTab, e impl.EndPoint) (impl.MapTab, int) {
	if !wantOk(t) || !wantOk(tab(e)) {
		return impl.MapTab{}, 0
	}
	if k := slices.Index(t.Ends, e); k >= 0 {
		return t, 500 + k
	}
	if len(t.Ends) == 6 {
		return t, 0
	}
	return tab(slices.Concat(t.Ends, []impl.EndPoint{e})...), 500 + len(t.Ends)
}

func TestMapOk(t *testing.T) {
	for _, x := range okTabs() {
		if !impl.MapOk(x) || !wantOk(x) {
			t.Errorf("%v is not ok", x)
		}
	}
	for _, x := range badTabs() {
		if impl.MapOk(x) || wantOk(x) {
			t.Errorf("%v is ok", x)
		}
	}
	if !impl.MapOk(impl.MapTab{}) {
		t.Error("nothing is not ok")
	}
	// The same address at another port, and the same port at another address, are other ends.
	if !impl.MapOk(tab(end(1, 2), end(2, 1), end(1, 1), end(2, 2))) {
		t.Error("ends that share a number")
	}
}

// Promise 63.
func TestPartsOfTables(t *testing.T) {
	for _, x := range okTabs() {
		ports := map[int]bool{}
		for k, e := range x.Ends {
			ports[impl.MapPort(x, e)] = true
			if !impl.MapOk(impl.MapTab{Ends: x.Ends[:k]}) {
				t.Errorf("%v is not ok", x.Ends[:k])
			}
		}
		if len(ports) != len(x.Ends) || ports[0] {
			t.Errorf("%v has the ports %v", x, ports)
		}
	}
	// Of one that is not ok those beginnings are that end ahead of what is wrong.
	for _, x := range badTabs() {
		for k := range x.Ends {
			part := impl.MapTab{Ends: x.Ends[:k]}
			if got := impl.MapOk(part); got != wantOk(part) {
				t.Errorf("MapOk(%v) = %v", part, got)
			}
		}
	}
}

// checkPut is promise 1 of a table and an end, and what MapPut answers besides.
func checkPut(t *testing.T, x impl.MapTab, e impl.EndPoint) (impl.MapTab, int) {
	t.Helper()
	wantTab, wantPort := wantPut(x, e)
	got, port := impl.MapPut(x, e)
	if !sameTab(got, wantTab) || port != wantPort {
		t.Errorf("MapPut(%v, %v) = %v, %d", x, e, got, port)
	}
	if !impl.MapOk(x) || !impl.EndInside(e) {
		return got, port
	}
	if !impl.MapOk(got) || impl.MapPort(got, e) != port {
		t.Errorf("behind MapPut(%v, %v) its port is %d", x, e, impl.MapPort(got, e))
	}
	if who, ok := impl.MapEnd(got, port); ok != (port != 0) || ok && who != e {
		t.Errorf("behind MapPut(%v, %v) at its port is %v, %v", x, e, who, ok)
	}
	if none := impl.MapPort(x, e) == 0 && len(x.Ends) == impl.MapMost; none != (port == 0) {
		t.Errorf("MapPut(%v, %v) = %d", x, e, port)
	}
	for k, other := range x.Ends {
		if impl.MapPort(got, other) != 500+k {
			t.Errorf("behind MapPut(%v, %v) %v has the port %d", x, e, other, impl.MapPort(got, other))
		}
	}
	return got, port
}

func TestMapPutOfTables(t *testing.T) {
	for _, x := range okTabs() {
		for _, e := range slices.Concat(x.Ends, notInside(), endsFrom(1, 9), []impl.EndPoint{end(1, 1), end(9, 999), end(3, 500)}) {
			checkPut(t, x, e)
		}
	}
}

// Of a table that is not ok nothing is put, nor found, whoever it is.
func TestMapPutIntoWhatIsNoTable(t *testing.T) {
	for _, x := range badTabs() {
		for _, e := range slices.Concat(x.Ends, notInside(), endsFrom(1, 9)) {
			if got, port := impl.MapPut(x, e); len(got.Ends) != 0 || port != 0 {
				t.Fatalf("MapPut(%v, %v) = %v, %d", x, e, got, port)
			}
		}
	}
}

// Promise 1, one put behind the other, with ends twice, and more than there is room for.
func TestMapPutOneBehindTheOther(t *testing.T) {
	r := rand.New(rand.NewSource(1))
	full := 0
	for range 500 {
		x := impl.MapTab{}
		for range r.Intn(20) {
			x, _ = checkPut(t, x, someEnd(r))
		}
		if len(x.Ends) == impl.MapMost {
			full++
		}
	}
	if full < 100 || full > 400 {
		t.Fatal(full)
	}
}

// someEnd is one of a few ends inside.
func someEnd(r *rand.Rand) impl.EndPoint {
	ports := []int{1, 7, 500, 999}
	return end(1+r.Intn(2), ports[r.Intn(len(ports))])
}

// Promise 94: also of one end twice, and of ends that have ports.
func TestTwoEndsInEitherOrder(t *testing.T) {
	for _, x := range okTabs() {
		for _, a := range slices.Concat(x.Ends, endsFrom(1, 9)) {
			for _, b := range slices.Concat(x.Ends, endsFrom(1, 9)) {
				checkEitherOrder(t, x, a, b)
			}
		}
	}
}

func checkEitherOrder(t *testing.T, x impl.MapTab, a, b impl.EndPoint) {
	t.Helper()
	one, _ := impl.MapPut(x, a)
	one, _ = impl.MapPut(one, b)
	two, _ := impl.MapPut(x, b)
	two, _ = impl.MapPut(two, a)
	if len(one.Ends) != len(two.Ends) {
		t.Errorf("%v and %v put into %v are %v, or %v", a, b, x, one, two)
	}
	fresh := map[impl.EndPoint]bool{}
	for _, e := range []impl.EndPoint{a, b} {
		if !slices.Contains(x.Ends, e) {
			fresh[e] = true
		}
	}
	room := impl.MapMost - len(x.Ends)
	for _, y := range []impl.MapTab{one, two} {
		if len(y.Ends) != len(x.Ends)+min(len(fresh), room) {
			t.Errorf("%v and %v put into %v leave %v", a, b, x, y)
		}
		both := impl.MapPort(y, a) != 0 && impl.MapPort(y, b) != 0
		if both != (len(fresh) <= room) {
			t.Errorf("%v and %v have the ports %d and %d of %v", a, b, impl.MapPort(y, a), impl.MapPort(y, b), y)
		}
	}
	if room == 1 && len(fresh) == 2 && (impl.MapPort(one, a) != 505 || impl.MapPort(two, b) != 505) {
		t.Errorf("who of %v and %v comes first into %v has no port", a, b, x)
	}
}

// Promise 22, and MapPort and MapEnd of any table.
func TestPortsAndEndsOfAnyTable(t *testing.T) {
	for _, x := range append(okTabs(), badTabs()...) {
		last := 500 + len(x.Ends) - 1
		for _, port := range []int{
			math.MinInt, math.MinInt + 499, math.MinInt + 500, -500, -1, 0, 1, 5, 21, 498, 499, 500, 501, 505, 506,
			last - 1, last, last + 1, last + 2, last + 1000, 999, 1000, 1<<32 + 500, math.MaxInt - 499, math.MaxInt,
		} {
			checkPort(t, x, port)
		}
		for _, e := range slices.Concat(x.Ends, notInside(), endsFrom(1, 9)) {
			want := slices.Index(x.Ends, e) + 500
			if want == 499 {
				want = 0
			}
			if got := impl.MapPort(x, e); got != want {
				t.Fatalf("MapPort(%v, %v) = %d", x, e, got)
			}
		}
	}
}

func checkPort(t *testing.T, x impl.MapTab, port int) {
	t.Helper()
	want, has := impl.EndPoint{}, false
	for k, e := range x.Ends {
		if 500+k == port {
			want, has = e, true
		}
	}
	got, ok := impl.MapEnd(x, port)
	if got != want || ok != has {
		t.Fatalf("MapEnd(%v, %d) = %v, %v", x, port, got, ok)
	}
	if ok && impl.MapOk(x) && impl.MapPort(x, got) != port {
		t.Fatalf("%v has the port %d of %v, not %d", got, impl.MapPort(x, got), x, port)
	}
}

// An end that stands twice has both ports, but is told the first one.
func TestAnEndThatStandsTwice(t *testing.T) {
	a, b := end(2, 3), end(4, 5)
	x := tab(b, a, a, b, a)
	if impl.MapPort(x, a) != 501 || impl.MapPort(x, b) != 500 {
		t.Error(impl.MapPort(x, a), impl.MapPort(x, b))
	}
	for k, want := range x.Ends {
		if got, ok := impl.MapEnd(x, 500+k); got != want || !ok {
			t.Error(k, got, ok)
		}
	}
	if _, ok := impl.MapEnd(x, 505); ok {
		t.Error("one behind the last")
	}
}

// namesOf is what each line names that names an end inside, or the box's.
func namesOf() map[string]impl.EndPoint {
	names := map[string]impl.EndPoint{}
	for _, addr := range []int{1, 2, 3, 4, 5, 6, 7, 8, 9, 50} {
		for port := 1; port <= 999; port++ {
			names["port "+strconv.Itoa(addr)+" "+strconv.Itoa(port)] = end(addr, port)
		}
	}
	return names
}

// wantLine is RwrLine of a table that is ok and a line, by the table of all names.
func wantLine(names map[string]impl.EndPoint, x impl.MapTab, s string) (impl.MapTab, string) {
	e := names[s]
	if wantSide(e.Addr) != inside {
		return x, s
	}
	x, port := wantPut(x, e)
	if port == 0 {
		return x, "none"
	}
	return x, "port 50 " + strconv.Itoa(port)
}

// wantBack is BakLine of a table that is ok and a line, by the table of all names.
func wantBack(names map[string]impl.EndPoint, x impl.MapTab, s string) string {
	k := names[s].Port - 500
	if names[s].Addr != 50 || k < 0 || k >= len(x.Ends) {
		return s
	}
	return "port " + strconv.Itoa(x.Ends[k].Addr) + " " + strconv.Itoa(x.Ends[k].Port)
}

// someLines is lines that name ends of each kind, and lines close to these; all are ok.
func someLines() []string {
	return []string{
		"", " ", "a", "hi", "none", "port", "port ", "port 1", "port 1 ", "1 7", "50 500", strings.Repeat("z", 16), "port 50 50000000",
		"port 1 7", "port 2 7", "port 3 7", "port 6 7", "port 7 7", "port 8 7", "port 9 7", "port 1 1", "port 9 999", "port 1 999", "port 9 1",
		"port 2 3", "port 1 9", "port 5 5", "port 3 500", "port 3 501",
		"port 50 1", "port 50 499", "port 50 500", "port 50 501", "port 50 502", "port 50 503", "port 50 504", "port 50 505", "port 50 506", "port 50 999",
		"port 100 21", "port 109 999", "port 100 500", "port 0 1", "port 10 1", "port 1 0", "port 1 1000", "port 50 0", "port 50 1000", "port 49 500", "port 51 500",
		"port 01 7", "port 1 07", "port 050 500", "port 50 0500", " port 1 7", "port  1 7", "port 1  7", "port 1 7 ", "port 50 500 ", " port 50 500", "port 50  500",
		"ports 1 7", "pport 1 7", "por 1 7", "port1 7", "port 17", "port 1 7 1", "port 1 a", "port a 1", "port 50 50", "port 5 0500", "porta 50 500",
	}
}

// noLines is texts that are no lines, though some would name an end without what is too much.
func noLines() []string {
	return []string{
		"A", "Port 1 7", "PORT 50 500", "port 1 7;", ";", ";port 1 7", "port 50 500;", "hi;ho", "port 1 7\n", "port\t1 7", "port +1 7", "port 1 -7", "port 1,7",
		"\x00", "\xff", "port 1 7\x00", "\u00e4", strings.Repeat("a", 17), "port 1 7         ", "port 50 500      ", "port 000000001 7 ", strings.Repeat("port 1 7", 1000),
	}
}

// Promise 23, and promise 81 of a line by itself.
func TestRwrLine(t *testing.T) {
	names := namesOf()
	for _, x := range okTabs() {
		for _, s := range someLines() {
			checkLineOutside(t, names, x, s)
		}
	}
}

func checkLineOutside(t *testing.T, names map[string]impl.EndPoint, x impl.MapTab, s string) {
	t.Helper()
	wantTab, want := wantLine(names, x, s)
	got, far := impl.RwrLine(x, s)
	if !sameTab(got, wantTab) || far != want {
		t.Errorf("RwrLine(%v, %q) = %v, %q", x, s, got, far)
	}
	if _, says := impl.LinSays(far); says || !impl.LinOk(far) || !impl.MapOk(got) {
		t.Errorf("%q goes outside as %q", s, far)
	}
	e, says := impl.LinSays(s)
	if !says && (far != s || !sameTab(got, x)) {
		t.Errorf("%q goes outside as %q, and leaves %v of %v", s, far, got, x)
	}
	port, named := impl.LinBox(far)
	if says && named && (impl.MapPort(got, e) != port || port < 500 || port > 505) {
		t.Errorf("%q goes outside as %q, and its port is %d", s, far, impl.MapPort(got, e))
	}
	noRoom := len(got.Ends) == impl.MapMost && impl.MapPort(got, e) == 0
	if says && (named == noRoom || far == "none" != noRoom) {
		t.Errorf("%q goes outside as %q with %v", s, far, got)
	}
}

// Each end inside, where it is the first, the last that there is room for, and one too many.
func TestRwrLineOfEveryEnd(t *testing.T) {
	names := namesOf()
	some := []impl.MapTab{{}, tab(end(1, 1), end(1, 2), end(9, 998), end(9, 999), end(5, 50)), tab(endsFrom(2, 6)...)}
	for s := range names {
		for _, x := range some {
			checkLineOutside(t, names, x, s)
			checkLineInside(t, names, x, s)
		}
	}
}

// A line one byte away from one that names an end goes as just what it says, either way; what is no line does not go.
func TestLinesCloseToLinesThatName(t *testing.T) {
	names := namesOf()
	x := tab(end(1, 7), end(2, 30), end(9, 999), end(1, 70), end(5, 50))
	check := func(s string) {
		if !lineForm.MatchString(s) {
			checkNothing(t, x, s)
			return
		}
		checkLineOutside(t, names, x, s)
		checkLineInside(t, names, x, s)
	}
	for _, s := range []string{"port 1 7", "port 2 30", "port 9 999", "port 8 8", "port 50 500", "port 50 504", "port 50 505", "port 50 50"} {
		for i := range len(s) + 1 {
			check(s[:i])
			check(s[i:])
			for c := range 256 {
				b := string([]byte{byte(c)})
				check(s[:i] + b + s[i:])
				check(s[:i] + b + s[min(i+1, len(s)):])
			}
		}
	}
}

func TestLinesAndStreamsOfWhatIsNotOk(t *testing.T) {
	for _, x := range okTabs() {
		for _, s := range noLines() {
			checkNothing(t, x, s)
		}
	}
	for i, x := range badTabs() {
		lines := append(someLines(), noLines()...)
		if i%20 != 0 {
			lines = []string{"", "hi", "port 1 7", "port 8 8", "port 50 500", "A", "none"}
		}
		for _, s := range lines {
			checkNothing(t, x, s)
			checkNoStream(t, x, s+";")
			checkNoStream(t, x, s)
		}
	}
}

// checkNothing asks what goes, either way, of a table and a line of which one is not ok.
func checkNothing(t *testing.T, x impl.MapTab, s string) {
	t.Helper()
	if got, far := impl.RwrLine(x, s); len(got.Ends) != 0 || far != "" {
		t.Errorf("RwrLine(%v, %.60q) = %v, %q", x, s, got, far)
	}
	if near := impl.BakLine(x, s); near != "" {
		t.Errorf("BakLine(%v, %.60q) = %q", x, s, near)
	}
}

// checkNoStream asks what goes of a table and a stream of which one is not ok.
func checkNoStream(t *testing.T, x impl.MapTab, s string) {
	t.Helper()
	if got, far := impl.RwrStream(x, s); len(got.Ends) != 0 || far != "" {
		t.Errorf("RwrStream(%v, %.60q) = %v, %q", x, s, got, far)
	}
}

// What is wrong may stand in any line, behind the last sign too; then no line goes, and nobody gets a port.
func TestTextsThatAreNoStreams(t *testing.T) {
	for _, x := range okTabs() {
		for _, bad := range []string{"A", "Port 1 7", "port 8 8\n", "\x00", "\xff", "port +1 7", strings.Repeat("a", 17), "port 8 8         "} {
			for _, s := range []string{bad, bad + ";", "port 8 8;" + bad, "hi;port 8 8;" + bad + ";", bad + ";port 8 8;", "port 8 8;" + bad + ";port 9 9;x"} {
				checkNoStream(t, x, s)
			}
		}
		for _, s := range []string{strings.Repeat("port 8 8;", 13) + "abcd", strings.Repeat(";", 121), strings.Repeat("port 8 8;", 1000), "port 8 8;" + strings.Repeat("a", 112)} {
			checkNoStream(t, x, s)
		}
	}
}

// wantStream is RwrStream of a table that is ok and a stream, one line behind the other.
func wantStream(names map[string]impl.EndPoint, x impl.MapTab, s string) (impl.MapTab, string) {
	lines, _ := linesByBytes(s)
	far := ""
	for _, line := range lines {
		var out string
		x, out = wantLine(names, x, line)
		far += out + ";"
	}
	return x, far
}

// someStream is a stream of lines of which most name something, perhaps with a part behind the last sign.
func someStream(r *rand.Rand) string {
	lines := someLines()
	s := ""
	for range r.Intn(14) {
		line := lines[r.Intn(len(lines))]
		switch r.Intn(4) {
		case 0:
			line = impl.LinPort(someEnd(r))
		case 1:
			line = impl.LinPort(end(1+r.Intn(9), 7))
		}
		if len(s)+len(line) < impl.StrMax {
			s += line + ";"
		}
	}
	if r.Intn(3) == 0 {
		s = s[:r.Intn(len(s)+1)]
	}
	return s
}

// eachStream hands on streams by hand, and many others, each with a table that is ok.
func eachStream(t *testing.T, check func(x impl.MapTab, s string)) {
	t.Helper()
	for _, s := range []string{
		"", ";", ";;", "x", "hi;", "hi;port 2 3;bye;", "hi;port 2 3;port 1 9;port 2 3;x", "port 2 3", "port 2 3;port 2 3", "none;port 9 9;none;",
		"port 1 1;port 2 1;port 3 1;port 4 1;port 5 1;port 6 1;port 7 1;port 1 1;port 8 1;", "port 50 500;port 2 3;port 50 500;", "port 50 505;port 9 9",
		strings.Repeat("port 1 1;", 13), strings.Repeat("port 1 1;", 13) + "abc", strings.Repeat(";", 120), strings.Repeat("port 9 999;", 10), "port 100 21;port 50 1;",
	} {
		for _, x := range okTabs() {
			check(x, s)
		}
	}
	r := rand.New(rand.NewSource(24))
	full := 0
	for range 3000 {
		x := impl.MapTab{}
		for range r.Intn(7) {
			x, _ = impl.MapPut(x, end(1+r.Intn(9), 7))
		}
		s := someStream(r)
		if !impl.StrOk(s) {
			t.Fatalf("%q is no stream", s)
		}
		check(x, s)
		if _, far := impl.RwrStream(x, s); strings.Contains(far, "none;") {
			full++
		}
	}
	if full < 100 {
		t.Fatal("there was room too often: ", full)
	}
}

// Promises 24 and 81.
func TestRwrStreamIsItsLines(t *testing.T) {
	names := namesOf()
	eachStream(t, func(x impl.MapTab, s string) {
		wantTab, want := wantStream(names, x, s)
		got, far := impl.RwrStream(x, s)
		if !sameTab(got, wantTab) || far != want {
			t.Fatalf("RwrStream(%v, %q) = %v, %q", x, s, got, far)
		}
		lines, _ := impl.StrLines(s)
		byLine := ""
		now := x
		for _, line := range lines {
			var out string
			now, out = impl.RwrLine(now, line)
			byLine += out + ";"
		}
		if !sameTab(now, got) || byLine != far {
			t.Fatalf("%q goes as %q with %v, line by line as %q with %v", s, far, got, byLine, now)
		}
		checkRoom(t, got, s, far)
	})
}

// checkRoom is promise 81 of a stream that went outside, and the table behind it.
func checkRoom(t *testing.T, x impl.MapTab, s, far string) {
	t.Helper()
	lines, _ := impl.StrLines(s)
	fars, rest := impl.StrLines(far)
	if len(fars) != len(lines) || rest != "" {
		t.Fatalf("%q goes as %q", s, far)
	}
	for i, line := range lines {
		e, says := impl.LinSays(line)
		if !says {
			continue
		}
		if noRoom := len(x.Ends) == impl.MapMost && impl.MapPort(x, e) == 0; noRoom != (fars[i] == "none") {
			t.Fatalf("%q goes as %q with %v", s, far, x)
		}
		if port, named := impl.LinBox(fars[i]); named {
			if who, ok := impl.MapEnd(x, port); !ok || who != e {
				t.Fatalf("%q goes as %q, and the port of %v is of %v", s, far, e, who)
			}
		}
	}
}

// Promise 24: what is behind the last sign does not go, and who is named there gets no port.
func TestWhatIsBehindTheLastSign(t *testing.T) {
	for _, x := range okTabs() {
		for _, s := range []string{"", ";", "hi;", "port 8 8;", "port 8 8;port 7 8;hi;"} {
			want, far := impl.RwrStream(x, s)
			for _, rest := range []string{"x", "port 9 9", "port 8 8", "port 50 500", "port 9 99", " ", strings.Repeat("a", 16)} {
				if got, gone := impl.RwrStream(x, s+rest); !sameTab(got, want) || gone != far {
					t.Errorf("RwrStream(%v, %q) = %v, %q", x, s+rest, got, gone)
				}
			}
		}
	}
}

// Promise 2.
func TestWhatWentOutsideGoesSoAgain(t *testing.T) {
	r := rand.New(rand.NewSource(2))
	eachStream(t, func(x impl.MapTab, s string) {
		behind, far := impl.RwrStream(x, s)
		for line := range strings.SplitSeq(far, ";") {
			if _, says := impl.LinSays(line); says {
				t.Fatalf("%q goes as %q", s, far)
			}
		}
		more := []impl.MapTab{behind}
		for range impl.MapMost {
			next, _ := impl.MapPut(more[len(more)-1], end(1+r.Intn(9), 800+r.Intn(100)))
			more = append(more, next)
		}
		for _, y := range more {
			if got, again := impl.RwrStream(y, s); !sameTab(got, y) || again != far {
				t.Fatalf("%q goes as %q, with %v as %q with %v", s, far, y, again, got)
			}
		}
		for i := range len(s) + 1 {
			want := firstLines(far, strings.Count(s[:i], ";"))
			for _, y := range []impl.MapTab{x, behind, more[1], more[impl.MapMost]} {
				if _, part := impl.RwrStream(y, s[:i]); part != want {
					t.Fatalf("%q goes as %q, its beginning %q with %v as %q", s, far, s[:i], y, part)
				}
			}
		}
	})
}

// firstLines is so many lines that a text begins with.
func firstLines(s string, many int) string {
	at := 0
	for range many {
		at += strings.Index(s[at:], ";") + 1
	}
	return s[:at]
}

// Promise 58.
func TestRwrStreamPieceByPiece(t *testing.T) {
	eachStream(t, func(x impl.MapTab, s string) {
		whole, far := impl.RwrStream(x, s)
		for i := range len(s) + 1 {
			if i > 0 && s[i-1] != ';' {
				continue
			}
			half, first := impl.RwrStream(x, s[:i])
			got, second := impl.RwrStream(half, s[i:])
			if !sameTab(got, whole) || first+second != far {
				t.Fatalf("%q goes with %v as %q, in pieces as %q and %q", s, x, far, first, second)
			}
		}
	})
}

// Promise 59.
func TestWhatIsOutsideStaysOutside(t *testing.T) {
	long := 0
	eachStream(t, func(x impl.MapTab, s string) {
		behind, far := impl.RwrStream(x, s)
		if strings.Count(far, ";") != strings.Count(s, ";") {
			t.Fatalf("%q goes as %q", s, far)
		}
		if !impl.StrOk(far) {
			long++
			checkNoStream(t, behind, far)
			return
		}
		for _, y := range []impl.MapTab{behind, x, {}, tab(endsFrom(1, 6)...)} {
			if got, again := impl.RwrStream(y, far); !sameTab(got, y) || again != far {
				t.Fatalf("%q goes as %q, and that with %v as %q with %v", s, far, y, again, got)
			}
		}
	})
	if long == 0 {
		t.Fatal("no stream was too long once it was outside")
	}
}

// Promises 4, 31 and 60.
func TestBakLine(t *testing.T) {
	names := namesOf()
	for _, x := range okTabs() {
		for _, s := range someLines() {
			checkLineInside(t, names, x, s)
		}
	}
}

func checkLineInside(t *testing.T, names map[string]impl.EndPoint, x impl.MapTab, s string) {
	t.Helper()
	near := impl.BakLine(x, s)
	if near != wantBack(names, x, s) {
		t.Errorf("BakLine(%v, %q) = %q", x, s, near)
	}
	port, named := impl.LinBox(s)
	e, has := impl.MapEnd(x, port)
	if named && has && (near != impl.LinPort(e) || !impl.EndInside(e)) || !(named && has) && near != s {
		t.Errorf("%q goes inside as %q by %v", s, near, x)
	}
	if again := impl.BakLine(x, near); again != near {
		t.Errorf("%q goes inside as %q, and once more as %q by %v", s, near, again, x)
	}
	if named && has {
		if got, far := impl.RwrLine(x, near); !sameTab(got, x) || far != s {
			t.Errorf("%q goes inside as %q, and outside again as %q with %v", s, near, far, got)
		}
	}
	if _, says := impl.LinSays(s); says {
		behind, far := impl.RwrLine(x, s)
		if _, room := impl.LinBox(far); room && impl.BakLine(behind, far) != s {
			t.Errorf("%q goes outside as %q, and inside again as %q", s, far, impl.BakLine(behind, far))
		}
	}
}

// A line that names a port is as it was by a table in which nobody has that port, and by nobody's table.
func TestBakLineOfPortsThatNobodyHas(t *testing.T) {
	for many := range impl.MapMost + 1 {
		x := tab(endsFrom(1, many)...)
		for _, port := range []int{1, 21, 499, 500 + many, 501 + many, 506, 999} {
			s := "port 50 " + strconv.Itoa(port)
			if near := impl.BakLine(x, s); near != s {
				t.Errorf("%q goes inside as %q by %v", s, near, x)
			}
		}
		for k := range many {
			s, want := "port 50 "+strconv.Itoa(500+k), "port "+strconv.Itoa(1+k)+" 7"
			if near := impl.BakLine(x, s); near != want {
				t.Errorf("%q goes inside as %q by %v", s, near, x)
			}
		}
	}
}

// answers is all tables that chapter 3 answers of one table.
func answers(x impl.MapTab) []impl.MapTab {
	var got []impl.MapTab
	for _, e := range []impl.EndPoint{end(1, 7), end(8, 8), end(100, 21)} {
		y, _ := impl.MapPut(x, e)
		got = append(got, y)
		y, _ = impl.RwrLine(x, impl.LinPort(e))
		got = append(got, y)
		for _, s := range []string{"", "hi;", impl.LinPort(e) + ";hi;port 9 9;port 9 8;x"} {
			y, _ = impl.RwrStream(x, s)
			got = append(got, y)
		}
		impl.MapOk(x)
		impl.MapPort(x, e)
		impl.MapEnd(x, 500)
		impl.BakLine(x, "port 50 500")
	}
	return got
}

// No argument is turned, in its list or behind the list's end; and no answer shares a list with it, or with another answer.
func TestTablesShareNoMemory(t *testing.T) {
	for _, x := range append(okTabs(), tab(endsFrom(1, 7)...), tab(end(1, 1), end(1, 1), end(100, 21))) {
		spare := 8
		roomy := make([]impl.EndPoint, len(x.Ends), len(x.Ends)+spare)
		copy(roomy, x.Ends)
		all := roomy[:cap(roomy)]
		for i := range spare {
			all[len(x.Ends)+i] = end(3, 300+i)
		}
		before := slices.Clone(all)
		got := answers(impl.MapTab{Ends: roomy})
		if !slices.Equal(all, before) {
			t.Fatalf("%v became %v", before, all)
		}
		want := cloned(got)
		for i := range got {
			overwrite(got[i].Ends)
			got[i].Ends = append(got[i].Ends, end(4, 44))
			if !slices.Equal(all, before) {
				t.Fatalf("to write to an answer turned %v to %v", before, all)
			}
			for k := i + 1; k < len(got); k++ {
				if !sameTab(got[k], want[k]) {
					t.Fatalf("to write to an answer turned another one, %v, to %v", want[k], got[k])
				}
			}
		}
		overwrite(roomy)
		if later := answers(x); !slices.EqualFunc(later, want, sameTab) {
			t.Fatalf("%v became %v", want, later)
		}
	}
}

// To write to an argument behind the call turns no answer.
func TestAnswersKeepNothingOfTheArgument(t *testing.T) {
	for _, x := range okTabs() {
		mine := impl.MapTab{Ends: slices.Clone(x.Ends)}
		got := answers(mine)
		want := cloned(got)
		overwrite(mine.Ends)
		if !slices.EqualFunc(got, want, sameTab) {
			t.Fatalf("%v became %v", want, got)
		}
	}
}

func cloned(tabs []impl.MapTab) []impl.MapTab {
	var all []impl.MapTab
	for _, x := range tabs {
		all = append(all, impl.MapTab{Ends: slices.Clone(x.Ends)})
	}
	return all
}

// overwrite turns a whole list, and what room there is behind it.
func overwrite(ends []impl.EndPoint) {
	ends = ends[:cap(ends)]
	for i := range ends {
		ends[i] = end(-7, -7)
	}
}
