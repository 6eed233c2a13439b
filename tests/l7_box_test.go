package tests

import (
	"fmt"
	"math"
	"math/rand"
	"runtime"
	"slices"
	"strings"
	"sync"
	"testing"
	"time"

	"loop.example/hatchway/impl"
)

// allNames is namesOf, told once for all tests of boxes.
var allNames = sync.OnceValue(namesOf)

func conn(in, out impl.EndPoint, known, heard, near string) impl.BoxConn {
	return impl.BoxConn{In: in, Out: out, Known: known, Heard: heard, Near: near}
}

func boxWith(rules []impl.RulRule, x impl.MapTab, conns ...impl.BoxConn) impl.BoxBox {
	return impl.BoxBox{Rules: rules, Table: x, Conns: conns}
}

func sameBox(a, b impl.BoxBox) bool {
	return slices.Equal(a.Rules, b.Rules) && sameTab(a.Table, b.Table) && slices.Equal(a.Conns, b.Conns)
}

func clonedBox(b impl.BoxBox) impl.BoxBox {
	return boxWith(slices.Clone(b.Rules), tab(slices.Clone(b.Table.Ends)...), slices.Clone(b.Conns)...)
}

func isNothing(b impl.BoxBox) bool {
	return sameBox(b, impl.BoxBox{})
}

// brief is a box or a segment as a text, which is cut, as what is not ok may be of any length.
func brief(x any) string {
	s := fmt.Sprint(x)
	return s[:min(len(s), 2000)]
}

func wantStr(s string) bool {
	return len(s) <= 120 && streamForm.MatchString(s)
}

// wantConnOk is whether streams are ok, by a table that is.
func wantConnOk(x impl.MapTab, c impl.BoxConn) bool {
	if !slices.Contains(x.Ends, c.In) || wantSide(c.Out.Addr) != outside || c.Out.Port != 21 {
		return false
	}
	if !wantStr(c.Known) || !wantStr(c.Heard) || len(c.Near) > 240 {
		return false
	}
	lines, _ := linesByBytes(c.Known)
	for _, line := range lines {
		e := allNames()[line]
		if wantSide(e.Addr) == inside && !slices.Contains(x.Ends, e) && len(x.Ends) < 6 {
			return false
		}
	}
	lines, _ = linesByBytes(c.Heard)
	near := c.Near
	for _, line := range lines {
		back := wantBack(allNames(), x, line)
		if rest, as := strings.CutPrefix(near, line+";"); as {
			near = rest
		} else if rest, as = strings.CutPrefix(near, back+";"); as {
			near = rest
		} else {
			return false
		}
	}
	return near == ""
}

// wantBoxOk is BoxOk, asked part by part.
func wantBoxOk(b impl.BoxBox) bool {
	if len(b.Rules) > 5 || len(b.Conns) > 3 || !wantOk(b.Table) {
		return false
	}
	for _, r := range b.Rules {
		if !wantRuleOk(r) {
			return false
		}
	}
	seen := map[[2]impl.EndPoint]bool{}
	for _, c := range b.Conns {
		both := [2]impl.EndPoint{c.In, c.Out}
		if seen[both] || !wantConnOk(b.Table, c) {
			return false
		}
		seen[both] = true
	}
	return true
}

// connOf is where the streams of two ends stand.
func connOf(b impl.BoxBox, in, out impl.EndPoint) int {
	for k, c := range b.Conns {
		if c.In == in && c.Out == out {
			return k
		}
	}
	return -1
}

// wantBoxOut is BoxOut, by what the other chapters' tests want.
func wantBoxOut(b impl.BoxBox, s impl.SegSeg) (impl.BoxBox, []impl.SegSeg) {
	if !wantBoxOk(b) {
		return impl.BoxBox{}, nil
	}
	b = clonedBox(b)
	if !wantSegOk(s) || !wantMay(b.Rules, s.Src, s.Dst) {
		return b, nil
	}
	x, port := wantPut(b.Table, s.Src)
	if port == 0 {
		return b, nil
	}
	b.Table = tab(slices.Clone(x.Ends)...)
	g := seg(end(50, port), s.Dst, s.Seq, s.Ack, s.Data)
	if s.Dst.Port != 21 {
		return b, []impl.SegSeg{g}
	}
	k := connOf(b, s.Src, s.Dst)
	if k < 0 && len(b.Conns) == 3 {
		return b, nil
	}
	if k < 0 {
		k = len(b.Conns)
		b.Conns = append(b.Conns, conn(s.Src, s.Dst, "", "", ""))
	}
	c := &b.Conns[k]
	if more := wantAdd(c.Known, s); wantStr(more) {
		c.Known = more
	}
	y, far := wantStream(allNames(), b.Table, c.Known)
	b.Table = tab(slices.Clone(y.Ends)...)
	g.Ack = saidAt(wantTheres(c.Heard, c.Near), s.Ack)
	return b, wantCut(g, far, saidAt(wantOuts(c.Known, far), s.Seq))
}

// wantBoxIn is BoxIn likewise.
func wantBoxIn(b impl.BoxBox, s impl.SegSeg) (impl.BoxBox, []impl.SegSeg) {
	if !wantBoxOk(b) {
		return impl.BoxBox{}, nil
	}
	b = clonedBox(b)
	who := s.Dst.Port - 500
	if !wantSegOk(s) || s.Dst.Addr != 50 || who < 0 || who >= len(b.Table.Ends) || !wantMay(b.Rules, b.Table.Ends[who], s.Src) {
		return b, nil
	}
	in := b.Table.Ends[who]
	g := seg(s.Src, in, s.Seq, s.Ack, s.Data)
	k := connOf(b, in, s.Src)
	if k < 0 {
		return b, []impl.SegSeg{g}
	}
	c := &b.Conns[k]
	was := strings.Count(c.Heard, ";")
	if more := wantAdd(c.Heard, s); wantStr(more) {
		c.Heard = more
	}
	lines, _ := linesByBytes(c.Heard)
	for _, line := range lines[was:] {
		c.Near += wantBack(allNames(), b.Table, line) + ";"
	}
	_, far := wantStream(allNames(), b.Table, c.Known)
	g.Ack = saidAt(wantTheres(c.Known, far), s.Ack)
	return b, wantCut(g, c.Near, saidAt(wantOuts(c.Heard, c.Near), s.Seq))
}

// wantBoxTurn is BoxTurn likewise.
func wantBoxTurn(b impl.BoxBox, s impl.SegSeg) (impl.BoxBox, impl.SegSeg, bool) {
	if !wantBoxOk(b) {
		return impl.BoxBox{}, impl.SegSeg{}, false
	}
	b = clonedBox(b)
	who := s.Dst.Port - 500
	if !wantSegOk(s) || wantSide(s.Src.Addr) != inside || s.Dst.Addr != 50 || who < 0 || who >= len(b.Table.Ends) {
		return b, impl.SegSeg{}, false
	}
	to := b.Table.Ends[who]
	x, port := wantPut(b.Table, s.Src)
	if port == 0 {
		return b, impl.SegSeg{}, false
	}
	b.Table = tab(slices.Clone(x.Ends)...)
	return b, seg(end(50, port), to, s.Seq, s.Ack, s.Data), true
}

// checkBoxOut holds BoxOut against what is wanted, and asks promise 39 of it.
func checkBoxOut(t *testing.T, b impl.BoxBox, s impl.SegSeg) (impl.BoxBox, []impl.SegSeg) {
	t.Helper()
	want, wantList := wantBoxOut(b, s)
	got, list := impl.BoxOut(b, s)
	if !sameBox(got, want) || !slices.Equal(list, wantList) {
		t.Fatalf("BoxOut(%s, %s) = %v, %v, not %v, %v", brief(b), brief(s), got, list, want, wantList)
	}
	if !wantBoxOk(b) {
		return got, list
	}
	if again, same := impl.BoxOut(got, s); !sameBox(again, got) || !slices.Equal(same, list) {
		t.Fatalf("BoxOut(%v, %v) = %v, %v, and once more %v, %v", b, s, got, list, again, same)
	}
	return got, list
}

// checkBoxIn likewise.
func checkBoxIn(t *testing.T, b impl.BoxBox, s impl.SegSeg) (impl.BoxBox, []impl.SegSeg) {
	t.Helper()
	want, wantList := wantBoxIn(b, s)
	got, list := impl.BoxIn(b, s)
	if !sameBox(got, want) || !slices.Equal(list, wantList) {
		t.Fatalf("BoxIn(%s, %s) = %v, %v, not %v, %v", brief(b), brief(s), got, list, want, wantList)
	}
	if !wantBoxOk(b) {
		return got, list
	}
	if again, same := impl.BoxIn(got, s); !sameBox(again, got) || !slices.Equal(same, list) {
		t.Fatalf("BoxIn(%v, %v) = %v, %v, and once more %v, %v", b, s, got, list, again, same)
	}
	return got, list
}

// checkBoxTurn holds BoxTurn against what is wanted.
func checkBoxTurn(t *testing.T, b impl.BoxBox, s impl.SegSeg) (impl.BoxBox, impl.SegSeg, bool) {
	t.Helper()
	want, wantSeg, good := wantBoxTurn(b, s)
	got, g, ok := impl.BoxTurn(b, s)
	if !sameBox(got, want) || g != wantSeg || ok != good {
		t.Fatalf("BoxTurn(%s, %s) = %v, %v, %v, not %v, %v, %v", brief(b), brief(s), got, g, ok, want, wantSeg, good)
	}
	return got, g, ok
}

// denyAll, allowAll and denySome are rules about all ends, and about 2 inside alone.
func denyAll() impl.RulRule  { return rule(false, 1, 9, 100, 109, 1, 999) }
func allowAll() impl.RulRule { return rule(true, 1, 9, 100, 109, 1, 999) }
func denySome() impl.RulRule { return rule(false, 2, 2, 100, 100, 1, 999) }

// busyBox is a box with streams of two inside and two outside, in which some lines name ends, in both directions.
func busyBox() impl.BoxBox {
	return boxWith(
		[]impl.RulRule{denySome(), allowAll()},
		tab(end(1, 7), end(2, 3), end(3, 500), end(9, 999)),
		conn(end(1, 7), end(100, 21), "hi;port 2 3;bye;port 8", "ok;port 50 501;port 50 503;x", "ok;port 2 3;port 50 503;"),
		conn(end(2, 3), end(100, 21), "", "", ""),
		conn(end(1, 7), end(109, 21), "port 9 999;;", ";port 50 505;port 50 500;", ";port 50 505;port 1 7;"),
	)
}

// fullBox is a box without room, neither for ends nor for streams; one line names an end that has no port.
func fullBox() impl.BoxBox {
	return boxWith(nil, tab(endsFrom(1, 6)...),
		conn(end(1, 7), end(100, 21), "port 7 7;port 2 7;", "", ""),
		conn(end(2, 7), end(100, 21), "port 1 7;hi", "port 50 505;", "port 6 7;"),
		conn(end(6, 7), end(100, 21), "", "port 50 506;", "port 50 506;"),
	)
}

// okBoxes is boxes that are ok, at the edges of what may be.
func okBoxes() []impl.BoxBox {
	long := strings.Repeat("port 50 500;", 10)
	near := strings.Repeat("port 9 999;", 10)
	a, out := end(9, 999), end(100, 21)
	list := []impl.BoxBox{
		{}, boxWith([]impl.RulRule{}, tab()), busyBox(), fullBox(),
		boxWith(slices.Repeat([]impl.RulRule{denyAll()}, 5), tab(a), conn(a, out, "hi;", "", "")),
		boxWith([]impl.RulRule{allowAll()}, tab(endsFrom(1, 5)...)),
		boxWith(nil, tab(endsFrom(1, 6)...)),
		boxWith(nil, tab(a), conn(a, out, "", "", "")),
		boxWith(nil, tab(a), conn(a, out, "port 2 3", "port 50 500", "")),
		boxWith(nil, tab(a), conn(a, out, strings.Repeat("port 9 999;", 10)+"port 1 7", long, long)),
		boxWith(nil, tab(a), conn(a, out, strings.Repeat(";", 120), long, near)),
		boxWith(nil, tab(a), conn(a, out, strings.Repeat("z", 16), long, near[:55]+long[60:])),
		boxWith(nil, tab(a), conn(a, out, "", long, long[:60]+near[55:])),
		boxWith(nil, tab(a), conn(a, out, "none;", strings.Repeat(";", 120), strings.Repeat(";", 120))),
		boxWith(nil, tab(end(1, 7), a), conn(a, out, "port 1 7;port 9 999;port 50 505;", "port 1 7;port 50 501;port 50 502;port 50 99", "port 1 7;port 9 999;port 50 502;")),
		boxWith(nil, tab(end(1, 7), a), conn(a, out, "a;", "", ""), conn(a, end(109, 21), "b;", "", ""), conn(a, end(104, 21), "c;", "", "")),
		boxWith(nil, tab(end(1, 7), a, end(9, 1)), conn(end(9, 1), out, "a;", "", ""), conn(a, out, "b;", "", ""), conn(end(1, 7), out, "c;", "", "")),
		boxWith(nil, tab(endsFrom(1, 6)...), conn(end(3, 7), out, "port 7 7;port 8 7;port 1 7;port 7 7;x", "none;port 50 505;", "none;port 6 7;")),
		boxWith(nil, tab(endsFrom(1, 6)...), conn(end(3, 7), out, strings.Repeat("port 1 7;", 13), "hi;x", "hi;")),
	}
	r := rand.New(rand.NewSource(7))
	for range 40 {
		b, talks := someWorld(r)
		for range 60 {
			b = stepped(b, someSeg(r, b, talks))
		}
		list = append(list, b)
	}
	return list
}

// badRules is lists of rules that are not ok, for one of them, or for how many there are.
func badRules() [][]impl.RulRule {
	lists := [][]impl.RulRule{slices.Repeat([]impl.RulRule{allowAll()}, 6), slices.Repeat([]impl.RulRule{denyAll()}, 1000), {{}}}
	for k, bad := range noRules() {
		if k%5 == 0 {
			lists = append(lists, []impl.RulRule{bad}, []impl.RulRule{allowAll(), bad}, []impl.RulRule{bad, denySome(), allowAll()}, append(slices.Repeat([]impl.RulRule{denySome()}, 4), bad))
		}
	}
	return lists
}

// badConns is streams that are not ok in a box in which 1 7 and 2 3 have ports.
func badConns() []impl.BoxConn {
	in, out := end(1, 7), end(100, 21)
	list := []impl.BoxConn{{}, conn(out, in, "", "", ""), conn(in, in, "", "", ""), conn(end(1, 3), out, "", "", ""), conn(end(2, 7), out, "", "", ""), conn(end(9, 9), out, "hi;", "", "")}
	for _, e := range append(notInside(), end(3, 1), end(1, 21), end(100, 20), end(100, 22), end(104, 1), end(109, 999)) {
		list = append(list, conn(e, out, "", "", ""))
		if e != out {
			list = append(list, conn(in, e, "", "", ""))
		}
	}
	for _, s := range []string{"A", "a\n;", "Port 1 7;", strings.Repeat("a", 17), "hi;" + strings.Repeat("a", 17) + ";", strings.Repeat(";", 121), strings.Repeat("port 1 7;", 14), strings.Repeat("a;", 500), "\x00;", "a;\xff"} {
		lines, _ := linesByBytes(s)
		near := ""
		for _, line := range lines {
			near += line + ";"
		}
		list = append(list, conn(in, out, s, "", ""), conn(in, out, "", s, near), conn(in, out, "", s, ""))
	}
	for _, s := range []string{"port 3 3;", "port 1 8;", "hi;port 3 7;bye;", "port 2 3;port 1 7;port 9 999;x", "port 7 1;port 7 1"} {
		list = append(list, conn(in, out, s, "", ""))
	}
	for _, c := range badNears() {
		list = append(list, conn(in, out, "hi;", c[0], c[1]))
	}
	return list
}

// badNears is streams, and texts that are not their lines as these may have gone inside, where 1 7 and 2 3 have ports.
func badNears() [][2]string {
	long := strings.Repeat("port 50 501;", 10)
	return [][2]string{
		{"", ";"}, {"", "x"}, {"", "hi;"}, {"hi", "hi"}, {"hi", "hi;"}, {"hi;", ""}, {"hi;", "hi"}, {"hi;", "ho;"}, {"hi;", "hi;;"}, {"hi;", ";hi;"}, {"hi;", "hi;x"}, {"hi;x", "hi;x"}, {"hi;x", "hi;x;"},
		{"a;b;", "a;"}, {"a;b;", "b;a;"}, {"a;b;", "a;b"}, {"a;b;", "a;b;c;"}, {"a;b;", "a;a;"}, {"a;b;", "b;b;"}, {"a;b;", "b;"}, {";", ""}, {";", ";;"}, {";;", ";"},
		{"port 50 501;", "port 1 7;"}, {"port 50 501;", "port 2 4;"}, {"port 50 501;", "port 50 500;"}, {"port 50 502;", "port 3 7;"}, {"port 50 501;", ";"}, {"port 50 501;", "none;"}, {"port 50 501;", "port 2 3"}, {"port 50 501;", "port 02 3;"},
		{"port 2 3;", "port 50 501;"}, {"port 50 501", "port 2 3;"}, {"x;port 50 501;y;", "x;port 2 3;z;"}, {"x;port 50 501;y;", "z;port 2 3;y;"}, {"x;port 50 501;y;", "x;port 1 7;y;"},
		{long, long + ";"}, {long, long + long}, {long, long[12:]}, {long, strings.Repeat("port 2 3;", 10) + strings.Repeat("z", 200)}, {long, strings.Repeat("port 2 3;", 11)}, {"hi;", strings.Repeat("hi;", 81)}, {"hi;", "hi;" + strings.Repeat("z", 1<<16)}, {"hi;", strings.Repeat(";", 1<<16)},
	}
}

// badBoxes is boxes that are not ok for one part alone.
func badBoxes() []impl.BoxBox {
	in, out := end(1, 7), end(100, 21)
	two := tab(in, end(2, 3))
	plain := conn(in, out, "hi;port 2 3;", "ok;", "ok;")
	other := conn(end(2, 3), out, "", "", "")
	list := []impl.BoxBox{
		boxWith(nil, two, plain, plain),
		boxWith(nil, two, plain, conn(in, out, "", "", "")),
		boxWith(nil, two, plain, other, conn(in, out, "bye;", "", "")),
		boxWith(nil, two, other, plain, plain),
		boxWith(nil, two, plain, other, conn(in, end(101, 21), "", "", ""), conn(in, end(102, 21), "", "", "")),
		boxWith(nil, tab(endsFrom(1, 6)...), conn(in, out, "", "", ""), conn(end(2, 7), out, "", "", ""), conn(end(3, 7), out, "", "", ""), conn(end(4, 7), out, "", "", "")),
		boxWith(nil, two, slices.Repeat([]impl.BoxConn{plain}, 1000)...),
		boxWith(nil, tab(), plain), boxWith(nil, tab(end(2, 3)), plain), boxWith(nil, tab(in), plain), boxWith(nil, tab(endsFrom(1, 5)...), plain),
		boxWith(nil, tab(end(2, 3), in), conn(in, out, "", "port 50 500;", "port 1 7;")),
		boxWith(nil, tab(endsFrom(1, 5)...), conn(in, out, "port 7 7;", "", "")),
	}
	for _, rules := range badRules() {
		list = append(list, boxWith(rules, two, plain, other), boxWith(rules, tab()))
	}
	for k, x := range badTabs() {
		if k < 20 || k%9 == 0 {
			list = append(list, boxWith(nil, x), boxWith([]impl.RulRule{allowAll()}, x, conn(end(1, 7), out, "", "", "")))
		}
	}
	for _, c := range badConns() {
		list = append(list, boxWith(nil, two, c), boxWith(nil, two, other, c), boxWith([]impl.RulRule{allowAll()}, two, c, conn(end(2, 3), end(105, 21), "", "", "")))
	}
	return list
}

// talk is two ends, and what they send each other.
type talk struct {
	in, out     impl.EndPoint
	says, backs string
}

// someBacks is a stream of which many lines name a port of the box's, that somebody has, may get, or never gets.
func someBacks(r *rand.Rand) string {
	s := ""
	for range r.Intn(12) {
		line := someLines()[r.Intn(len(someLines()))]
		if r.Intn(2) == 0 {
			line = impl.LinPort(end(50, 500+r.Intn(8)))
		}
		if len(s)+len(line) < impl.StrMax {
			s += line + ";"
		}
	}
	return s[:len(s)-r.Intn(2)*r.Intn(len(s)/2+1)]
}

// someWorld is a box at its beginning, and some who talk through it: more or fewer than there are ports and streams for.
func someWorld(r *rand.Rand) (impl.BoxBox, []talk) {
	rules := [][]impl.RulRule{nil, nil, {denySome()}, {rule(false, 1, 1, 109, 109, 1, 999), allowAll()}, {allowAll(), denyAll()}}
	outs := []impl.EndPoint{end(100, 21), end(109, 21), end(100, 21), end(104, 21), end(100, 7), end(109, 999)}
	var talks []talk
	for range 1 + r.Intn(6) {
		talks = append(talks, talk{someEnd(r), outs[r.Intn(len(outs))], someStream(r), someBacks(r)})
	}
	return impl.BoxNew(rules[r.Intn(len(rules))]), talks
}

// someSeg is a segment by one of those who talk: mostly bytes that go on, or that came already, or that come too soon.
func someSeg(r *rand.Rand, b impl.BoxBox, talks []talk) impl.SegSeg {
	x := talks[r.Intn(len(talks))]
	var c impl.BoxConn
	if k := connOf(b, x.in, x.out); k >= 0 {
		c = b.Conns[k]
	}
	port := end(50, impl.MapPort(b.Table, x.in))
	if port.Port == 0 || r.Intn(12) == 0 {
		port.Port = 500 + r.Intn(7)
	}
	ack := r.Intn(1 + r.Intn(100))
	switch r.Intn(10) {
	case 0:
		return seg(someEnd(r), port, r.Intn(241), ack, "word")
	case 1:
		bent := []string{"aaaaaaaaaaaa", "port 7 7;;", ";", "x", "none;", "port 50 501;", "A", "0123456789 9;"}[r.Intn(8)]
		if r.Intn(2) == 0 {
			return seg(x.out, port, len(c.Heard), ack, bent)
		}
		return seg(x.in, x.out, len(c.Known), ack, bent)
	case 2, 3, 4:
		return pieceAt(r, x.out, port, len(c.Heard), ack, x.backs)
	}
	return pieceAt(r, x.in, x.out, len(c.Known), ack, x.says)
}

// pieceAt is a segment with bytes of a stream, at the end of what is known of it, or some bytes ahead of that, or behind.
func pieceAt(r *rand.Rand, src, dst impl.EndPoint, known, ack int, s string) impl.SegSeg {
	at := min(known, len(s))
	switch r.Intn(6) {
	case 0:
		at = r.Intn(at + 1)
	case 1:
		at = min(len(s), at+1+r.Intn(4))
	}
	return seg(src, dst, at, ack, s[at:min(len(s), at+r.Intn(13))])
}

// stepped is the box behind a segment, brought to it from where it comes.
func stepped(b impl.BoxBox, s impl.SegSeg) impl.BoxBox {
	switch {
	case s.Dst.Addr != 50:
		b, _ = impl.BoxOut(b, s)
	case wantSide(s.Src.Addr) == inside:
		b, _, _ = impl.BoxTurn(b, s)
	default:
		b, _ = impl.BoxIn(b, s)
	}
	return b
}

// eachStep hands on boxes, and segments that come to them, one behind the other; and each box that is ok by hand with some segments.
func eachStep(seed int64, check func(b impl.BoxBox, s impl.SegSeg)) {
	r := rand.New(rand.NewSource(seed))
	for range 80 {
		b, talks := someWorld(r)
		for range 50 {
			s := someSeg(r, b, talks)
			check(b, s)
			b = stepped(b, s)
		}
	}
	for i, b := range okBoxes() {
		for range 20 {
			_, talks := someWorld(r)
			check(b, someSeg(r, b, talks))
		}
		for k, s := range plainSegs() {
			if (i+k)%7 == int(seed)%7 {
				check(b, s)
			}
		}
	}
}

// plainSegs is segments from each side to each, at places within what is known of streams, and past it.
func plainSegs() []impl.SegSeg {
	var list []impl.SegSeg
	for _, src := range []impl.EndPoint{end(1, 7), end(2, 3), end(9, 999), end(5, 5), end(50, 500), end(100, 21), end(109, 21), end(100, 7)} {
		for _, dst := range []impl.EndPoint{end(1, 7), end(50, 500), end(50, 501), end(50, 505), end(50, 21), end(100, 21), end(109, 21), end(100, 7)} {
			for k, seq := range []int{0, 1, 3, 12, 120, 240} {
				list = append(list, seg(src, dst, seq, 240-seq, []string{"hi;", "port 8 8;", ""}[k%3]), seg(src, dst, seq, 3+k, ""))
			}
		}
	}
	return list
}

// All three at each step, against what is wanted.
func TestBoxAtEachStep(t *testing.T) {
	var went, came, turned, noRoom, late, full, gaps int
	eachStep(1, func(b impl.BoxBox, s impl.SegSeg) {
		if !impl.BoxOk(b) {
			t.Fatalf("%v is not ok", b)
		}
		got, list := checkBoxOut(t, b, s)
		went += len(list)
		for k := range got.Conns {
			noRoom += strings.Count(impl.BoxFar(got, k), "none;")
		}
		if len(list) == 1 && list[0].Data == "" && s.Data != "" && s.Dst.Port == 21 {
			gaps++
		}
		if len(got.Table.Ends) == 6 {
			full++
		}
		back, list := checkBoxIn(t, b, s)
		came += len(list)
		for _, c := range back.Conns {
			if strings.Count(c.Near, ";") > 0 && c.Near != firstLines(c.Heard, strings.Count(c.Heard, ";")) {
				late++
			}
		}
		if _, _, ok := checkBoxTurn(t, b, s); ok {
			turned++
		}
	})
	if went < 1000 || came < 500 || turned < 100 || noRoom < 100 || late < 100 || full < 100 || gaps < 100 {
		t.Fatal(went, came, turned, noRoom, late, full, gaps)
	}
}

func TestBoxOk(t *testing.T) {
	for _, b := range okBoxes() {
		if !impl.BoxOk(b) || !wantBoxOk(b) {
			t.Errorf("%v is not ok", b)
		}
	}
	for _, b := range badBoxes() {
		if impl.BoxOk(b) || wantBoxOk(b) {
			t.Errorf("%s is ok", brief(b))
		}
	}
}

// One byte of a box's texts turned, left out, or more: just what may be is ok.
func TestBoxOkOfTextsCloseToOnesThatAre(t *testing.T) {
	var ok, not int
	check := func(b impl.BoxBox) {
		t.Helper()
		got := impl.BoxOk(b)
		if got != wantBoxOk(b) {
			t.Fatalf("BoxOk(%v) = %v", b, got)
		}
		if got {
			ok++
		} else {
			not++
		}
	}
	for _, b := range []impl.BoxBox{busyBox(), fullBox(), okBoxes()[14]} {
		for k := range b.Conns {
			for part := range 3 {
				for _, s := range closeTo(textOf(&b.Conns[k], part)) {
					other := clonedBox(b)
					*partOf(&other.Conns[k], part) = s
					check(other)
				}
			}
		}
	}
	if ok < 200 || not < 200 {
		t.Fatal(ok, not)
	}
}

// partOf is one of the three texts of streams.
func partOf(c *impl.BoxConn, part int) *string {
	return []*string{&c.Known, &c.Heard, &c.Near}[part]
}

func textOf(c *impl.BoxConn, part int) string {
	return *partOf(c, part)
}

// closeTo is texts one byte away from one.
func closeTo(s string) []string {
	var list []string
	for i := range len(s) + 1 {
		list = append(list, s[:i], s[i:], s[:i]+s[min(i+1, len(s)):])
		for _, c := range []string{";", "0", "1", "3", "a", " ", "A", "\n"} {
			list = append(list, s[:i]+c+s[i:], s[:i]+c+s[min(i+1, len(s)):])
		}
	}
	return list
}

// Promise 67.
func TestPartsOfBoxes(t *testing.T) {
	for _, b := range okBoxes() {
		parts := []impl.BoxBox{boxWith(nil, b.Table, b.Conns...)}
		for k := range b.Conns {
			parts = append(parts, boxWith(b.Rules, b.Table, b.Conns[:k]...), boxWith(nil, b.Table, b.Conns[:k]...), boxWith(b.Rules, b.Table, b.Conns[k:]...))
		}
		for k := range b.Rules {
			parts = append(parts, boxWith(b.Rules[:k], b.Table, b.Conns...), boxWith(b.Rules[k:], b.Table, b.Conns...))
		}
		for _, x := range parts {
			if !impl.BoxOk(x) {
				t.Errorf("%v is not ok, a part of %v", x, b)
			}
		}
		for k, c := range b.Conns {
			for at := range len(b.Conns) + 1 {
				if twice := boxWith(b.Rules, b.Table, slices.Insert(slices.Clone(b.Conns), at, c)...); impl.BoxOk(twice) {
					t.Errorf("%v is ok, with the streams at %d twice", twice, k)
				}
				empty := boxWith(b.Rules, b.Table, slices.Insert(slices.Clone(b.Conns), at, conn(c.In, c.Out, "", "", ""))...)
				if impl.BoxOk(empty) {
					t.Errorf("%v is ok, with other streams of the ends at %d", empty, k)
				}
			}
		}
	}
}

// Promise 37.
func TestBoxNew(t *testing.T) {
	lists := [][]impl.RulRule{nil, {}, {denySome(), allowAll()}, slices.Repeat([]impl.RulRule{denyAll()}, 5)}
	for _, r := range okRules() {
		lists = append(lists, []impl.RulRule{r})
	}
	for _, rules := range lists {
		b := impl.BoxNew(rules)
		if !slices.Equal(b.Rules, rules) || len(b.Table.Ends) != 0 || len(b.Conns) != 0 || !impl.BoxOk(b) {
			t.Errorf("BoxNew(%v) = %v", rules, b)
		}
	}
	for _, rules := range append(badRules(), []impl.RulRule{denySome(), rule(true, 2, 1, 100, 100, 1, 1)}) {
		if b := impl.BoxNew(rules); !isNothing(b) {
			t.Errorf("%d rules make %v", len(rules), b)
		}
	}
}

func TestBoxFarByHand(t *testing.T) {
	long := boxWith(nil, tab(end(1, 1)), conn(end(1, 1), end(100, 21), strings.Repeat("port 1 1;", 13)+"x", "", ""))
	for _, c := range []struct {
		b    impl.BoxBox
		k    int
		want string
	}{
		{impl.BoxBox{}, 0, ""},
		{busyBox(), 0, "hi;port 50 501;bye;"},
		{busyBox(), 1, ""},
		{busyBox(), 2, "port 50 503;;"},
		{busyBox(), 3, ""},
		{busyBox(), -1, ""},
		{fullBox(), 0, "none;port 50 501;"},
		{fullBox(), 1, "port 50 500;"},
		{fullBox(), 2, ""},
		{okBoxes()[14], 0, "port 50 500;port 50 501;port 50 505;"},
		{long, 0, strings.Repeat("port 50 500;", 13)},
		{boxWith(nil, tab(end(1, 1)), conn(end(1, 1), end(100, 21), "port 50 500;port 50 501;none;port 100 21;port 1", "", "")), 0, "port 50 500;port 50 501;none;port 100 21;"},
		{boxWith([]impl.RulRule{denyAll()}, tab(end(1, 1)), conn(end(1, 1), end(100, 21), "hi;", "", "")), 0, "hi;"},
	} {
		if got := impl.BoxFar(c.b, c.k); got != c.want {
			t.Errorf("BoxFar(%v, %d) = %q", c.b, c.k, got)
		}
	}
	for _, b := range okBoxes() {
		for _, k := range []int{math.MinInt, -1 << 32, -3, -2, -1, len(b.Conns), len(b.Conns) + 1, 3, 4, 256, 1 << 32, math.MaxInt} {
			if got := impl.BoxFar(b, k); got != "" {
				t.Errorf("BoxFar(%v, %d) = %q", b, k, got)
			}
		}
	}
}

// Promises 6, 70 and 86 of each box: what is outside of each stream is its lines there, and no more.
func TestBoxFarOfEachBox(t *testing.T) {
	same := 0
	check := func(b impl.BoxBox) {
		for k, c := range b.Conns {
			far := impl.BoxFar(b, k)
			if _, want := wantStream(allNames(), b.Table, c.Known); far != want {
				t.Fatalf("BoxFar(%v, %d) = %q", b, k, far)
			}
			if far != "" && !strings.HasSuffix(far, ";") || strings.Count(far, ";") != strings.Count(c.Known, ";") {
				t.Fatalf("%q goes as %q", c.Known, far)
			}
			lines, rest := linesByBytes(c.Known)
			named := slices.ContainsFunc(lines, func(line string) bool { return wantSide(allNames()[line].Addr) == inside })
			if !named {
				same++
				if far+rest != c.Known {
					t.Fatalf("%q names nobody, but goes as %q", c.Known, far)
				}
			}
		}
	}
	eachStep(6, func(b impl.BoxBox, s impl.SegSeg) { check(b) })
	if same < 100 {
		t.Fatal(same)
	}
}

// checkNoBox asks all functions of a box that is not ok for nothing.
func checkNoBox(t *testing.T, b impl.BoxBox, s impl.SegSeg) {
	t.Helper()
	if x, list := impl.BoxOut(b, s); !isNothing(x) || len(list) != 0 {
		t.Errorf("BoxOut(%s, %v) = %v, %v", brief(b), s, x, list)
	}
	if x, list := impl.BoxIn(b, s); !isNothing(x) || len(list) != 0 {
		t.Errorf("BoxIn(%s, %v) = %v, %v", brief(b), s, x, list)
	}
	if x, g, ok := impl.BoxTurn(b, s); !isNothing(x) || g != (impl.SegSeg{}) || ok {
		t.Errorf("BoxTurn(%s, %v) = %v, %v, %v", brief(b), s, x, g, ok)
	}
}

func TestBoxesThatAreNotOk(t *testing.T) {
	segs := []impl.SegSeg{
		seg(end(1, 7), end(100, 21), 0, 0, "hi;"), seg(end(1, 7), end(100, 7), 0, 0, "hi;"), seg(end(100, 21), end(50, 500), 0, 0, "ok;"),
		seg(end(100, 7), end(50, 500), 0, 0, ""), seg(end(1, 7), end(50, 500), 0, 0, "word"), {}, plainSeg("A"),
	}
	for _, b := range badBoxes() {
		for _, s := range segs {
			checkNoBox(t, b, s)
		}
		for k := range 4 {
			if far := impl.BoxFar(b, k); far != "" {
				t.Errorf("BoxFar(%s, %d) = %q", brief(b), k, far)
			}
		}
	}
}

// Promise 85: a segment that is not ok for one part alone, from and to each side.
func TestSegmentsThatAreNoneTurnNothing(t *testing.T) {
	for _, b := range []impl.BoxBox{{}, busyBox(), fullBox()} {
		for _, s := range noSegs() {
			for _, ends := range [][2]impl.EndPoint{{s.Src, s.Dst}, {end(100, 21), end(50, 500)}, {end(1, 7), end(50, 500)}, {end(1, 7), end(100, 7)}} {
				bad := seg(ends[0], ends[1], s.Seq, s.Ack, s.Data)
				if wantSegOk(bad) {
					continue
				}
				if x, list := checkBoxOut(t, b, bad); !sameBox(x, b) || len(list) != 0 {
					t.Errorf("BoxOut(%v, %s) = %v, %v", b, brief(bad), x, list)
				}
				if x, list := checkBoxIn(t, b, bad); !sameBox(x, b) || len(list) != 0 {
					t.Errorf("BoxIn(%v, %s) = %v, %v", b, brief(bad), x, list)
				}
				if x, g, ok := checkBoxTurn(t, b, bad); !sameBox(x, b) || g != (impl.SegSeg{}) || ok {
					t.Errorf("BoxTurn(%v, %s) = %v, %v, %v", b, brief(bad), x, g, ok)
				}
			}
		}
	}
}

// step is a segment's numbers and bytes, and what is known and goes behind it.
type step struct {
	seq, ack int
	data     string
	known    string
	ends     int
	goes     []impl.SegSeg
}

// One stream from inside: in the midst of a line, with a gap, within what is known, at its end, twice, from the beginning on, and from far beyond.
func TestBoxOutOfAStreamByHand(t *testing.T) {
	in, out := end(1, 7), end(100, 21)
	b := impl.BoxNew(nil)
	like := func(seq int, data string) impl.SegSeg { return seg(end(50, 500), out, seq, 0, data) }
	for k, c := range []step{
		{0, 0, "", "", 1, []impl.SegSeg{like(0, "")}},
		{1, 0, "i;", "", 1, []impl.SegSeg{like(0, "")}},
		{0, 0, "h", "h", 1, []impl.SegSeg{like(0, "")}},
		{0, 0, "hi;port 2 3", "hi;port 2 3", 1, []impl.SegSeg{like(0, "hi;")}},
		{12, 0, "x;", "hi;port 2 3", 1, []impl.SegSeg{like(3, "")}},
		{1, 0, "i;p", "hi;port 2 3", 1, []impl.SegSeg{like(0, "hi;")}},
		{3, 0, "port 9 9;", "hi;port 2 3;", 2, []impl.SegSeg{like(3, "port 50 501;")}},
		{11, 0, ";bye", "hi;port 2 3;bye", 2, []impl.SegSeg{like(3, "port 50 501;")}},
		{11, 0, ";bye", "hi;port 2 3;bye", 2, []impl.SegSeg{like(3, "port 50 501;")}},
		{12, 0, "bye", "hi;port 2 3;bye", 2, []impl.SegSeg{like(15, "")}},
		{15, 0, ";", "hi;port 2 3;bye;", 2, []impl.SegSeg{like(15, "bye;")}},
		{0, 0, "", "hi;port 2 3;bye;", 2, []impl.SegSeg{like(0, "hi;port 50 5"), like(12, "01;bye;")}},
		{2, 0, "", "hi;port 2 3;bye;", 2, []impl.SegSeg{like(0, "hi;port 50 5"), like(12, "01;bye;")}},
		{3, 0, "xyz", "hi;port 2 3;bye;", 2, []impl.SegSeg{like(3, "port 50 501;"), like(15, "bye;")}},
		{240, 240, "", "hi;port 2 3;bye;", 2, []impl.SegSeg{like(19, "")}},
		{16, 0, "port 1 7;no;", "hi;port 2 3;bye;port 1 7;no;", 2, []impl.SegSeg{like(19, "port 50 500;"), like(31, "no;")}},
		{28, 0, "abcdefghijkl", "hi;port 2 3;bye;port 1 7;no;abcdefghijkl", 2, []impl.SegSeg{like(34, "")}},
		{40, 0, "mnopq", "hi;port 2 3;bye;port 1 7;no;abcdefghijkl", 2, []impl.SegSeg{like(34, "")}},
		{40, 0, "mnop", "hi;port 2 3;bye;port 1 7;no;abcdefghijklmnop", 2, []impl.SegSeg{like(34, "")}},
		{44, 0, ";;", "hi;port 2 3;bye;port 1 7;no;abcdefghijklmnop;;", 2, []impl.SegSeg{like(34, "abcdefghijkl"), like(46, "mnop;;")}},
	} {
		x, list := checkBoxOut(t, b, seg(in, out, c.seq, c.ack, c.data))
		if len(x.Conns) != 1 || x.Conns[0] != conn(in, out, c.known, "", "") || len(x.Table.Ends) != c.ends || !slices.Equal(list, c.goes) {
			t.Fatalf("at step %d BoxOut of %q at %d leaves %v, and lets go %v", k, c.data, c.seq, x, list)
		}
		b = x
	}
	if !sameTab(b.Table, tab(in, end(2, 3))) {
		t.Fatal(b.Table)
	}
}

// One stream from outside, likewise; with lines that name a port that an end has, that nobody has, and that an end gets later.
func TestBoxInOfAStreamByHand(t *testing.T) {
	in, out := end(1, 7), end(100, 21)
	b := boxWith(nil, tab(in, end(2, 3)), conn(in, out, "", "", ""))
	like := func(seq int, data string) impl.SegSeg { return seg(out, in, seq, 0, data) }
	heard, near := "", ""
	for k, c := range []struct {
		seq  int
		data string
		adds string
		near string
		goes []impl.SegSeg
	}{
		{0, "", "", "", []impl.SegSeg{like(0, "")}},
		{1, "k;", "", "", []impl.SegSeg{like(0, "")}},
		{0, "ok;port 50 5", "ok;port 50 5", "ok;", []impl.SegSeg{like(0, "ok;")}},
		{13, "1;", "", "", []impl.SegSeg{like(3, "")}},
		{12, "01;port 50 5", "01;port 50 5", "port 2 3;", []impl.SegSeg{like(3, "port 2 3;")}},
		{12, "01;port 50 5", "", "", []impl.SegSeg{like(3, "port 2 3;")}},
		{24, "02;", "02;", "port 50 502;", []impl.SegSeg{like(12, "port 50 502;")}},
		{14, "", "", "", []impl.SegSeg{like(3, "port 2 3;por"), like(15, "t 50 502;")}},
		{15, "", "", "", []impl.SegSeg{like(12, "port 50 502;")}},
		{0, "", "", "", []impl.SegSeg{like(0, "ok;port 2 3;"), like(12, "port 50 502;")}},
		{27, "", "", "", []impl.SegSeg{like(24, "")}},
		{240, "x", "", "", []impl.SegSeg{like(24, "")}},
		{27, "aaaaaaaaaaaa", "aaaaaaaaaaaa", "", []impl.SegSeg{like(24, "")}},
		{39, "aaaaa", "", "", []impl.SegSeg{like(24, "")}},
		{39, ";port 50 503", ";port 50 503", "aaaaaaaaaaaa;", []impl.SegSeg{like(24, "aaaaaaaaaaaa"), like(36, ";")}},
	} {
		heard += c.adds
		near += c.near
		x, list := checkBoxIn(t, b, seg(out, end(50, 500), c.seq, 0, c.data))
		if !slices.Equal(x.Conns, []impl.BoxConn{conn(in, out, "", heard, near)}) || !sameTab(x.Table, b.Table) || !slices.Equal(list, c.goes) {
			t.Fatalf("at step %d BoxIn of %q at %d leaves %v, and lets go %v", k, c.data, c.seq, x, list)
		}
		b = x
	}
	// Now 502 and 503 are given: what went inside stays; the line that has not come to its end yet is named by the table of then.
	for port, e := range []impl.EndPoint{end(3, 3), end(4, 4)} {
		x, g, ok := impl.BoxTurn(b, seg(e, end(50, 500), 0, 0, "x"))
		if !ok || g.Src != end(50, 502+port) || !slices.Equal(x.Conns, b.Conns) {
			t.Fatal(x, g, ok)
		}
		b = x
	}
	for k, c := range []struct {
		seq  int
		data string
		near string
		goes []impl.SegSeg
	}{
		{0, ";port 50 50", "port 4 4;", []impl.SegSeg{like(37, "port 4 4;")}},
		{11, "2", "", []impl.SegSeg{like(46, "")}},
		{12, ";", "port 3 3;", []impl.SegSeg{like(46, "port 3 3;")}},
		{12, ";", "", []impl.SegSeg{like(46, "port 3 3;")}},
	} {
		near += c.near
		x, list := checkBoxIn(t, b, seg(out, end(50, 500), len(heard)+c.seq, 0, c.data))
		if x.Conns[0].Near != near || !slices.Equal(list, c.goes) {
			t.Fatalf("at step %d BoxIn of %q leaves %v, and lets go %v", k, c.data, x, list)
		}
		b = x
	}
}

// How much is there, in both directions, at each number: lines that are the same byte by byte, others whole, and no more than what has come to its end.
func TestHowMuchIsThereByHand(t *testing.T) {
	in, out := end(1, 7), end(100, 21)
	const known, far = "ab;port 2 3;;port 9 999;c;port 8 8", "ab;port 50 501;;none;c;"
	const heard, near = "x;port 50 501;port 50 505;yy", "x;port 2 3;port 50 505;"
	full := tab(slices.Concat([]impl.EndPoint{in, end(2, 3)}, endsFrom(3, 4))...)
	b := boxWith(nil, full, conn(in, out, known, heard, near))
	if got := impl.BoxFar(b, 0); got != far {
		t.Fatal(got)
	}
	acksOut := slices.Concat([]int{0, 1}, slices.Repeat([]int{2}, 9), []int{14, 15, 16, 17, 18, 19, 20, 21, 22, 23, 24, 25, 26})
	acksIn := slices.Concat([]int{0, 1, 2}, slices.Repeat([]int{3}, 12), []int{12}, slices.Repeat([]int{13}, 5), []int{24, 25, 26})
	if len(acksOut) != len(near)+1 || len(acksIn) != len(far)+1 {
		t.Fatal(len(acksOut), len(near), len(acksIn), len(far))
	}
	for ack := range 241 {
		for _, data := range []string{"", "a", ";"} {
			_, list := checkBoxOut(t, b, seg(in, out, 3, ack, data))
			_, back := checkBoxIn(t, b, seg(out, end(50, 500), 0, ack, data))
			for _, g := range list {
				if g.Ack != saidAt(acksOut, ack) {
					t.Fatalf("%d bytes of %q are there: outside it is said that %d are", ack, near, g.Ack)
				}
			}
			for _, g := range back {
				if g.Ack != saidAt(acksIn, ack) {
					t.Fatalf("%d bytes of %q are there: inside it is said that %d are", ack, far, g.Ack)
				}
			}
			if len(list) == 0 || len(back) == 0 {
				t.Fatal("nothing goes")
			}
		}
	}
}

// What a segment brings itself is counted: a line that it ends is there, if all is said to be.
func TestWhatComesIsCountedAtOnce(t *testing.T) {
	in, out := end(1, 7), end(100, 21)
	b := boxWith(nil, tab(in, end(2, 3)), conn(in, out, "port 2 3;b", "port 50 500;y", "port 1 7;"))
	b, list := checkBoxOut(t, b, seg(in, out, 10, 9, ";"))
	if !slices.Equal(list, []impl.SegSeg{seg(end(50, 500), out, 12, 12, "b;")}) {
		t.Fatal(list)
	}
	b, list = checkBoxIn(t, b, seg(out, end(50, 500), 13, 13, ";"))
	if !slices.Equal(list, []impl.SegSeg{seg(out, in, 9, 10, "y;")}) {
		t.Fatal(list)
	}
	if _, list = checkBoxIn(t, b, seg(out, end(50, 500), 0, 240, "")); len(list) != 1 || list[0].Ack != 11 {
		t.Fatal(list)
	}
	if _, list = checkBoxOut(t, b, seg(in, out, 0, 240, "")); len(list) != 2 || list[0].Ack != 14 || list[1].Ack != 14 {
		t.Fatal(list)
	}
}

// Who sends, where to: with a port and without, with room and without, who may and who may not; to BoxCtl and to others.
func TestBoxOutByHand(t *testing.T) {
	five, six := tab(endsFrom(1, 5)...), tab(endsFrom(1, 6)...)
	two := []impl.BoxConn{conn(end(1, 7), end(101, 21), "", "", ""), conn(end(1, 7), end(102, 21), "", "", "")}
	three := append(slices.Clone(two), conn(end(2, 7), end(100, 21), "hi;", "", ""))
	deny := []impl.RulRule{denySome()}
	for _, c := range []struct {
		b     impl.BoxBox
		src   impl.EndPoint
		dst   impl.EndPoint
		port  int
		ends  int
		conns int
	}{
		{impl.BoxBox{}, end(1, 7), end(100, 7), 500, 1, 0},
		{impl.BoxBox{}, end(1, 7), end(100, 21), 500, 1, 1},
		{impl.BoxBox{}, end(9, 999), end(109, 999), 500, 1, 0},
		{impl.BoxBox{}, end(1, 21), end(100, 22), 500, 1, 0},
		{impl.BoxBox{}, end(1, 7), end(50, 500), 0, 0, 0},
		{impl.BoxBox{}, end(1, 7), end(50, 21), 0, 0, 0},
		{impl.BoxBox{}, end(1, 7), end(2, 21), 0, 0, 0},
		{impl.BoxBox{}, end(1, 7), end(1, 7), 0, 0, 0},
		{impl.BoxBox{}, end(100, 21), end(100, 21), 0, 0, 0},
		{impl.BoxBox{}, end(100, 7), end(109, 7), 0, 0, 0},
		{impl.BoxBox{}, end(50, 500), end(100, 21), 0, 0, 0},
		{boxWith(deny, tab()), end(2, 7), end(100, 7), 0, 0, 0},
		{boxWith(deny, tab()), end(2, 7), end(100, 21), 0, 0, 0},
		{boxWith(deny, tab()), end(2, 7), end(101, 21), 500, 1, 1},
		{boxWith(deny, tab()), end(1, 7), end(100, 21), 500, 1, 1},
		{boxWith(deny, five), end(2, 7), end(100, 21), 0, 5, 0},
		{boxWith(nil, five), end(5, 7), end(100, 7), 504, 5, 0},
		{boxWith(nil, five), end(9, 9), end(100, 7), 505, 6, 0},
		{boxWith(nil, five), end(9, 9), end(100, 21), 505, 6, 1},
		{boxWith(nil, six), end(6, 7), end(100, 7), 505, 6, 0},
		{boxWith(nil, six), end(6, 7), end(100, 21), 505, 6, 1},
		{boxWith(nil, six), end(7, 7), end(100, 7), 0, 6, 0},
		{boxWith(nil, six), end(7, 7), end(100, 21), 0, 6, 0},
		{boxWith(nil, six), end(6, 8), end(100, 21), 0, 6, 0},
		{boxWith(nil, five, two...), end(2, 7), end(100, 21), 501, 5, 3},
		{boxWith(nil, five, two...), end(9, 9), end(101, 21), 505, 6, 3},
		{boxWith(nil, five, three...), end(2, 7), end(100, 21), 501, 5, 3},
		{boxWith(nil, five, three...), end(1, 7), end(102, 21), 500, 5, 3},
		{boxWith(nil, five, three...), end(1, 7), end(100, 7), 500, 5, 3},
		{boxWith(nil, five, three...), end(9, 9), end(101, 999), 505, 6, 3},
		{boxWith(nil, five, three...), end(1, 7), end(100, 21), 0, 5, 3},
		{boxWith(nil, five, three...), end(2, 7), end(101, 21), 0, 5, 3},
		{boxWith(nil, five, three...), end(9, 9), end(100, 21), 0, 6, 3},
		{boxWith(nil, six, three...), end(9, 9), end(100, 21), 0, 6, 3},
	} {
		x, list := checkBoxOut(t, c.b, seg(c.src, c.dst, 0, 5, "hi;"))
		var want []impl.SegSeg
		if c.port != 0 && c.dst.Port == 21 {
			want = []impl.SegSeg{seg(end(50, c.port), c.dst, 0, 0, "hi;")}
		} else if c.port != 0 {
			want = []impl.SegSeg{seg(end(50, c.port), c.dst, 0, 5, "hi;")}
		}
		if !slices.Equal(list, want) || len(x.Table.Ends) != c.ends || len(x.Conns) != c.conns {
			t.Errorf("BoxOut of %v from %v to %v leaves %v, and lets go %v", c.b, c.src, c.dst, x, list)
		}
	}
}

// What comes from where to where: to a port that an end has, to one that nobody has, from who may and who may not.
func TestBoxInByHand(t *testing.T) {
	two := tab(end(2, 7), end(1, 7))
	streams := conn(end(1, 7), end(100, 21), "", "", "")
	deny := []impl.RulRule{denySome()}
	for _, c := range []struct {
		b    impl.BoxBox
		src  impl.EndPoint
		dst  impl.EndPoint
		to   impl.EndPoint
		data string
		ack  int
	}{
		{boxWith(nil, two), end(100, 21), end(50, 500), end(2, 7), "hi", 5},
		{boxWith(nil, two), end(100, 21), end(50, 501), end(1, 7), "hi", 5},
		{boxWith(nil, two), end(109, 999), end(50, 501), end(1, 7), "hi", 5},
		{boxWith(nil, two, streams), end(100, 21), end(50, 501), end(1, 7), "", 0},
		{boxWith(nil, two, streams), end(100, 21), end(50, 500), end(2, 7), "hi", 5},
		{boxWith(nil, two, streams), end(101, 21), end(50, 501), end(1, 7), "hi", 5},
		{boxWith(nil, two, streams), end(100, 22), end(50, 501), end(1, 7), "hi", 5},
		{boxWith(deny, two, streams), end(100, 22), end(50, 501), end(1, 7), "hi", 5},
		{boxWith(deny, two), end(101, 21), end(50, 500), end(2, 7), "hi", 5},
		{boxWith(deny, two), end(100, 21), end(50, 500), impl.EndPoint{}, "", 0},
		{boxWith(deny, two), end(100, 7), end(50, 500), impl.EndPoint{}, "", 0},
		{boxWith([]impl.RulRule{denyAll()}, two, streams), end(100, 21), end(50, 501), impl.EndPoint{}, "", 0},
		{boxWith(nil, two), end(100, 21), end(50, 499), impl.EndPoint{}, "", 0},
		{boxWith(nil, two), end(100, 21), end(50, 502), impl.EndPoint{}, "", 0},
		{boxWith(nil, two), end(100, 21), end(50, 21), impl.EndPoint{}, "", 0},
		{boxWith(nil, two), end(100, 21), end(50, 7), impl.EndPoint{}, "", 0},
		{boxWith(nil, two), end(100, 21), end(50, 999), impl.EndPoint{}, "", 0},
		{boxWith(nil, two), end(100, 21), end(1, 500), impl.EndPoint{}, "", 0},
		{boxWith(nil, two), end(100, 21), end(1, 7), impl.EndPoint{}, "", 0},
		{boxWith(nil, two), end(100, 21), end(100, 500), impl.EndPoint{}, "", 0},
		{boxWith(nil, two), end(3, 3), end(50, 500), impl.EndPoint{}, "", 0},
		{boxWith(nil, two), end(1, 7), end(50, 500), impl.EndPoint{}, "", 0},
		{boxWith(nil, two), end(50, 501), end(50, 500), impl.EndPoint{}, "", 0},
		{impl.BoxBox{}, end(100, 21), end(50, 500), impl.EndPoint{}, "", 0},
	} {
		x, list := checkBoxIn(t, c.b, seg(c.src, c.dst, 0, 5, "hi"))
		var want []impl.SegSeg
		if c.to != (impl.EndPoint{}) {
			want = []impl.SegSeg{seg(c.src, c.to, 0, c.ack, c.data)}
		}
		if !slices.Equal(list, want) || !sameTab(x.Table, c.b.Table) || len(x.Conns) != len(c.b.Conns) {
			t.Errorf("BoxIn of %v from %v to %v leaves %v, and lets go %v", c.b, c.src, c.dst, x, list)
		}
	}
}

// Where no streams are there, lines that name ports of the box's go inside as they are.
func TestBoxInWithoutStreams(t *testing.T) {
	b := boxWith(nil, tab(end(1, 7), end(2, 3)), conn(end(1, 7), end(100, 21), "", "", ""))
	for _, s := range []impl.SegSeg{
		seg(end(100, 21), end(50, 501), 7, 9, "port 50 500;"), seg(end(101, 21), end(50, 500), 240, 240, "port 50 501;"), seg(end(100, 7), end(50, 500), 0, 0, "port 50 501;"),
	} {
		x, list := checkBoxIn(t, b, s)
		want := s
		want.Dst = b.Table.Ends[s.Dst.Port-500]
		if !sameBox(x, b) || !slices.Equal(list, []impl.SegSeg{want}) {
			t.Errorf("BoxIn of %v leaves %v, and lets go %v", s, x, list)
		}
	}
}

// Promise 9, by hand: to a port that an end has, and that nobody has, not even by this segment; with a port and without, with room and without.
func TestBoxTurnByHand(t *testing.T) {
	five, six := tab(endsFrom(1, 5)...), tab(endsFrom(1, 6)...)
	none := impl.EndPoint{}
	for _, c := range []struct {
		b        impl.BoxBox
		src, dst impl.EndPoint
		from     int
		to       impl.EndPoint
		ends     int
	}{
		{impl.BoxBox{}, end(1, 7), end(50, 500), 0, none, 0},
		{boxWith(nil, tab(end(1, 7))), end(1, 7), end(50, 500), 500, end(1, 7), 1},
		{boxWith(nil, tab(end(1, 7))), end(2, 7), end(50, 500), 501, end(1, 7), 2},
		{boxWith(nil, tab(end(1, 7))), end(2, 7), end(50, 501), 0, none, 1},
		{boxWith(nil, tab(end(1, 7))), end(2, 7), end(50, 21), 0, none, 1},
		{boxWith(nil, tab(end(1, 7))), end(2, 7), end(50, 7), 0, none, 1},
		{boxWith(nil, tab(end(1, 7))), end(2, 7), end(1, 7), 0, none, 1},
		{boxWith(nil, tab(end(1, 7))), end(2, 7), end(1, 500), 0, none, 1},
		{boxWith(nil, tab(end(1, 7))), end(2, 7), end(100, 500), 0, none, 1},
		{boxWith(nil, tab(end(1, 7))), end(100, 7), end(50, 500), 0, none, 1},
		{boxWith(nil, tab(end(1, 7))), end(50, 500), end(50, 500), 0, none, 1},
		{boxWith([]impl.RulRule{denyAll()}, tab(end(1, 7))), end(2, 7), end(50, 500), 501, end(1, 7), 2},
		{boxWith(nil, five), end(9, 9), end(50, 504), 505, end(5, 7), 6},
		{boxWith(nil, five), end(9, 9), end(50, 505), 0, none, 5},
		{boxWith(nil, five), end(5, 7), end(50, 500), 504, end(1, 7), 5},
		{boxWith(nil, six), end(5, 7), end(50, 505), 504, end(6, 7), 6},
		{boxWith(nil, six), end(6, 7), end(50, 505), 505, end(6, 7), 6},
		{boxWith(nil, six), end(7, 7), end(50, 500), 0, none, 6},
		{boxWith(nil, six), end(5, 7), end(50, 506), 0, none, 6},
		{boxWith(nil, six), end(5, 7), end(50, 499), 0, none, 6},
	} {
		s := seg(c.src, c.dst, 240, 7, "port 1 7;")
		want := impl.SegSeg{}
		if c.from != 0 {
			want = seg(end(50, c.from), c.to, 240, 7, "port 1 7;")
		}
		x, g, ok := checkBoxTurn(t, c.b, s)
		if ok != (c.from != 0) || g != want || len(x.Table.Ends) != c.ends || !slices.Equal(x.Conns, c.b.Conns) || !slices.Equal(x.Rules, c.b.Rules) {
			t.Errorf("BoxTurn of %v from %v to %v leaves %v, and lets go %v, %v", c.b, c.src, c.dst, x, g, ok)
		}
	}
}

// Promise 9: what goes by BoxTurn comes to who has the port, and an answer comes back.
func TestWhoIsInsideFindsWhoIsInside(t *testing.T) {
	found := 0
	eachStep(9, func(b impl.BoxBox, s impl.SegSeg) {
		for _, dst := range []impl.EndPoint{s.Dst, end(50, 500+s.Seq%8)} {
			s := seg(s.Src, dst, s.Seq, s.Ack, s.Data)
			x, g, ok := impl.BoxTurn(b, s)
			if !impl.BoxOk(x) {
				t.Fatalf("behind BoxTurn of %v %v is not ok", s, x)
			}
			to, has := impl.MapEnd(b.Table, dst.Port)
			if ok && (!has || dst.Addr != 50 || g.Dst != to || g.Data != s.Data || g.Src != end(50, impl.MapPort(x.Table, s.Src))) {
				t.Fatalf("BoxTurn of %v is %v of %v", s, g, x)
			}
			if !ok {
				continue
			}
			found++
			y, back, ok := impl.BoxTurn(x, seg(g.Dst, g.Src, 0, 1, "ok;"))
			if !ok || back != seg(dst, s.Src, 0, 1, "ok;") || !sameBox(x, y) {
				t.Fatalf("an answer to %v is %v, %v of %v", g, back, ok, y)
			}
		}
	})
	if found < 100 {
		t.Fatal(found)
	}
}

// checkOneBehindTheOther asks of segments that they are all of a text from one place on, without a gap.
func checkOneBehindTheOther(t *testing.T, list []impl.SegSeg, s string) {
	t.Helper()
	if len(list) == 0 {
		return
	}
	at := list[0].Seq
	for _, g := range list {
		if g.Seq != at || !strings.HasPrefix(s[at:], g.Data) {
			t.Fatalf("%v is not of %q from %d on", list, s, at)
		}
		at += len(g.Data)
	}
	if at != len(s) {
		t.Fatalf("%v ends ahead of the end of %q", list, s)
	}
}

// checkKnows asks of a box that it knows all that another one knew, with the same rules.
func checkKnows(t *testing.T, b, was impl.BoxBox) {
	t.Helper()
	if !impl.BoxOk(b) || !slices.Equal(b.Rules, was.Rules) || len(b.Conns) < len(was.Conns) || len(b.Table.Ends) < len(was.Table.Ends) || !slices.Equal(b.Table.Ends[:len(was.Table.Ends)], was.Table.Ends) {
		t.Fatalf("%v became %v", was, b)
	}
	for k, c := range was.Conns {
		now := b.Conns[k]
		if now.In != c.In || now.Out != c.Out || !strings.HasPrefix(now.Known, c.Known) || !strings.HasPrefix(now.Heard, c.Heard) || !strings.HasPrefix(now.Near, c.Near) {
			t.Fatalf("%v became %v", c, now)
		}
		if !strings.HasPrefix(impl.BoxFar(b, k), impl.BoxFar(was, k)) {
			t.Fatalf("what went outside of %v turned", c)
		}
	}
}

// Promises 5, 6, 40 and 86.
func TestWhatGoesOutside(t *testing.T) {
	went := 0
	eachStep(5, func(b impl.BoxBox, s impl.SegSeg) {
		x, list := impl.BoxOut(b, s)
		checkKnows(t, x, b)
		may := impl.RulMay(b.Rules, s.Src, s.Dst)
		for _, g := range list {
			if !may || !wantSegOk(g) || g.Src != end(50, impl.MapPort(x.Table, s.Src)) || g.Dst != s.Dst {
				t.Fatalf("BoxOut(%v, %v) lets go %v", b, s, g)
			}
		}
		if !may && !sameBox(x, b) {
			t.Fatalf("BoxOut(%v, %v) leaves %v", b, s, x)
		}
		if s.Dst.Port != 21 || len(list) == 0 {
			return
		}
		went++
		k := connOf(x, s.Src, s.Dst)
		checkOneBehindTheOther(t, list, impl.BoxFar(x, k))
		if last := list[len(list)-1].Data; last != "" && !strings.HasSuffix(last, ";") {
			t.Fatalf("BoxOut(%v, %v) lets go %v", b, s, list)
		}
		was := ""
		if k < len(b.Conns) {
			was = b.Conns[k].Known
		}
		want := impl.SegAdd(was, s)
		if !impl.StrOk(want) {
			want = was
		}
		if x.Conns[k].Known != want {
			t.Fatalf("%q with %v is %q", was, s, x.Conns[k].Known)
		}
		if k < len(b.Conns) && (x.Conns[k].Heard != b.Conns[k].Heard || x.Conns[k].Near != b.Conns[k].Near) {
			t.Fatalf("%v became %v", b.Conns[k], x.Conns[k])
		}
	})
	if went < 500 {
		t.Fatal(went)
	}
}

// Promises 7, 38 and 40.
func TestWhatGoesInside(t *testing.T) {
	came := 0
	eachStep(38, func(b impl.BoxBox, s impl.SegSeg) {
		x, list := impl.BoxIn(b, s)
		checkKnows(t, x, b)
		who, has := impl.MapEnd(b.Table, s.Dst.Port)
		may := has && s.Dst.Addr == 50 && impl.RulMay(b.Rules, who, s.Src)
		if !sameTab(x.Table, b.Table) || len(x.Conns) != len(b.Conns) || !may && (len(list) > 0 || !sameBox(x, b)) || may && len(list) == 0 && impl.SegOk(s) {
			t.Fatalf("BoxIn(%v, %v) leaves %v, and lets go %v", b, s, x, list)
		}
		for _, g := range list {
			if !wantSegOk(g) || g.Dst != who || g.Src != s.Src {
				t.Fatalf("BoxIn(%v, %v) lets go %v", b, s, g)
			}
		}
		k := connOf(b, who, s.Src)
		if k < 0 || len(list) == 0 {
			return
		}
		came++
		checkOneBehindTheOther(t, list, x.Conns[k].Near)
		want := impl.SegAdd(b.Conns[k].Heard, s)
		if !impl.StrOk(want) {
			want = b.Conns[k].Heard
		}
		if x.Conns[k].Heard != want || x.Conns[k].Known != b.Conns[k].Known {
			t.Fatalf("%v with %v became %v", b.Conns[k], s, x.Conns[k])
		}
		checkNear(t, x, x.Conns[k])
	})
	if came < 500 {
		t.Fatal(came)
	}
}

// checkNear asks of each line that went inside that it is what was sent, or names the end that has the port that was sent.
func checkNear(t *testing.T, b impl.BoxBox, c impl.BoxConn) {
	t.Helper()
	lines, _ := linesByBytes(c.Heard)
	nears, rest := linesByBytes(c.Near)
	if len(lines) != len(nears) || rest != "" {
		t.Fatalf("%q is %q inside", c.Heard, c.Near)
	}
	for k, line := range lines {
		port, named := impl.LinBox(line)
		e, has := impl.MapEnd(b.Table, port)
		if nears[k] != line && !(named && has && nears[k] == impl.LinPort(e)) {
			t.Fatalf("%q is %q inside, by %v", c.Heard, c.Near, b.Table)
		}
	}
}

// Promise 8: an answer to each segment that went outside comes to who sent, and to nobody else.
func TestAnswersComeBack(t *testing.T) {
	answered := 0
	eachStep(8, func(b impl.BoxBox, s impl.SegSeg) {
		x, list := impl.BoxOut(b, s)
		for _, g := range list {
			for _, data := range []string{"", "ok;", "port 50 500;"} {
				y, back := impl.BoxIn(x, seg(g.Dst, g.Src, s.Seq%7, g.Seq+len(g.Data), data))
				if len(back) == 0 || !sameTab(y.Table, x.Table) {
					t.Fatalf("no answer to %v comes back to %v", g, x)
				}
				for _, a := range back {
					if a.Dst != s.Src || a.Src != s.Dst {
						t.Fatalf("an answer to %v of %v is %v", g, s, a)
					}
				}
				answered++
			}
		}
	})
	if answered < 1000 {
		t.Fatal(answered)
	}
}

// Promise 41.
func TestWhatIsNoSuchStream(t *testing.T) {
	went, not := 0, 0
	eachStep(41, func(b impl.BoxBox, s impl.SegSeg) {
		for _, dst := range []impl.EndPoint{s.Dst, end(100, 20), end(100, 22), end(109, 7), end(104, 500)} {
			if dst.Port == 21 || !impl.EndOutside(dst) || !impl.EndInside(s.Src) {
				continue
			}
			s := seg(s.Src, dst, s.Seq, s.Ack, s.Data)
			x, list := impl.BoxOut(b, s)
			port := impl.MapPort(x.Table, s.Src)
			if !impl.SegOk(s) || !impl.RulMay(b.Rules, s.Src, dst) || port == 0 {
				not++
				if len(list) != 0 || !sameBox(x, b) {
					t.Fatalf("BoxOut(%v, %v) leaves %v, and lets go %v", b, s, x, list)
				}
				continue
			}
			went++
			if !slices.Equal(list, []impl.SegSeg{seg(end(50, port), dst, s.Seq, s.Ack, s.Data)}) || !slices.Equal(x.Conns, b.Conns) {
				t.Fatalf("BoxOut(%v, %v) leaves %v, and lets go %v", b, s, x, list)
			}
		}
	})
	if went < 500 || not < 100 {
		t.Fatal(went, not)
	}
}

// Promise 42: what goes of all other streams, there and back, is as it was.
func TestWhoAsksWhomMakesNoDifferenceToOthers(t *testing.T) {
	others := 0
	eachStep(42, func(b impl.BoxBox, s impl.SegSeg) {
		x, _ := impl.BoxOut(b, s)
		for k, c := range b.Conns {
			if c.In == s.Src && c.Out == s.Dst {
				continue
			}
			others++
			if x.Conns[k] != c || impl.BoxFar(x, k) != impl.BoxFar(b, k) {
				t.Fatalf("behind BoxOut of %v %v is %v", s, c, x.Conns[k])
			}
			again := seg(c.In, c.Out, s.Seq%20, s.Ack, "")
			_, want := impl.BoxOut(b, again)
			if _, list := impl.BoxOut(x, again); !slices.Equal(list, want) {
				t.Fatalf("behind BoxOut of %v of %v goes %v, not %v", s, c, list, want)
			}
			again = seg(c.Out, end(50, impl.MapPort(b.Table, c.In)), s.Seq%20, s.Ack, "")
			_, want = impl.BoxIn(b, again)
			if _, list := impl.BoxIn(x, again); !slices.Equal(list, want) {
				t.Fatalf("behind BoxOut of %v of %v comes %v, not %v", s, c, list, want)
			}
		}
	})
	if others < 1000 {
		t.Fatal(others)
	}
}

// Promises 68 and 96: who has a port behind BoxOut; nobody else but whom lines name; and where there is no room nothing turns.
func TestWhoHasAPortBehindBoxOut(t *testing.T) {
	var first, none, named int
	eachStep(68, func(b impl.BoxBox, s impl.SegSeg) {
		x, list := impl.BoxOut(b, s)
		if !impl.SegOk(s) || !impl.RulMay(b.Rules, s.Src, s.Dst) {
			if !sameTab(x.Table, b.Table) {
				t.Fatalf("BoxOut(%v, %v) leaves %v", b, s, x)
			}
			return
		}
		had := slices.Contains(b.Table.Ends, s.Src)
		room := len(b.Table.Ends) < impl.MapMost
		if (impl.MapPort(x.Table, s.Src) != 0) != (had || room) {
			t.Fatalf("BoxOut(%v, %v) leaves %v", b, s, x)
		}
		if !had && !room {
			none++
			y, _, ok := impl.BoxTurn(b, seg(s.Src, end(50, 500), 0, 0, "x"))
			if len(list) != 0 || !sameBox(x, b) || ok || !sameBox(y, b) {
				t.Fatalf("BoxOut(%v, %v) leaves %v, BoxTurn %v", b, s, x, y)
			}
		}
		if !had && room {
			first++
		}
		says := map[impl.EndPoint]bool{s.Src: true}
		if k := connOf(x, s.Src, s.Dst); k >= 0 {
			lines, _ := linesByBytes(x.Conns[k].Known)
			for _, line := range lines {
				says[allNames()[line]] = true
			}
		}
		for _, e := range x.Table.Ends[len(b.Table.Ends):] {
			if !says[e] {
				t.Fatalf("BoxOut(%v, %v) gives a port to %v", b, s, e)
			}
			if e != s.Src {
				named++
			}
		}
	})
	if first < 50 || none < 50 || named < 50 {
		t.Fatal(first, none, named)
	}
}

// brought is a box behind segments from inside, one behind the other, and what came outside of them, put together.
func brought(t *testing.T, b impl.BoxBox, list []impl.SegSeg) (impl.BoxBox, string) {
	t.Helper()
	came := ""
	for _, s := range list {
		var goes []impl.SegSeg
		b, goes = checkBoxOut(t, b, s)
		came = added(came, goes)
	}
	return b, came
}

// sentBack is a box behind segments from outside, and what came inside, put together.
func sentBack(t *testing.T, b impl.BoxBox, list []impl.SegSeg) (impl.BoxBox, string) {
	t.Helper()
	came := ""
	for _, s := range list {
		var goes []impl.SegSeg
		b, goes = checkBoxIn(t, b, s)
		came = added(came, goes)
	}
	return b, came
}

// cutAnyhow is segments like one, of all bytes of a text, each of any length.
func cutAnyhow(r *rand.Rand, s impl.SegSeg, text string) []impl.SegSeg {
	var list []impl.SegSeg
	for at := 0; at < len(text); at += len(list[len(list)-1].Data) {
		next := min(len(text), at+1+r.Intn(impl.SegMax))
		list = append(list, seg(s.Src, s.Dst, at, s.Ack, text[at:next]))
	}
	return append(list, seg(s.Src, s.Dst, len(text), s.Ack, ""))
}

// anyOrder is segments in some order, as often as it takes for all to be put together, some of them late.
func anyOrder(r *rand.Rand, list []impl.SegSeg) []impl.SegSeg {
	var all []impl.SegSeg
	for range list {
		mixed := slices.Clone(list)
		r.Shuffle(len(mixed), func(i, k int) { mixed[i], mixed[k] = mixed[k], mixed[i] })
		all = append(all, mixed...)
	}
	return append(all, list...)
}

// Promise 69: a stream in pieces of each size, in order, each twice, and in other orders.
func TestHowAStreamIsCutMakesNoDifference(t *testing.T) {
	r := rand.New(rand.NewSource(69))
	s := seg(end(1, 7), end(100, 21), 0, 0, "")
	for range 60 {
		text := someStream(r)
		b, _ := brought(t, impl.BoxNew(nil), impl.SegCut(s, text, 0))
		_, want := impl.BoxOut(b, s)
		far := impl.BoxFar(b, 0)
		x, wantFar := wantStream(allNames(), tab(s.Src), text)
		if b.Conns[0].Known != text || far != wantFar || !sameTab(b.Table, x) {
			t.Fatalf("of %q the box knows %v", text, b)
		}
		pieces := cutAnyhow(r, s, text)
		orders := [][]impl.SegSeg{pieces, slices.Concat(pieces, pieces), anyOrder(r, pieces), cutAnyhow(r, s, text)}
		for _, order := range orders {
			y, came := brought(t, impl.BoxNew(nil), order)
			if !sameBox(y, b) || came != far {
				t.Fatalf("%q, cut as %v, leaves %v, and comes as %q, not %q", text, order, y, came, far)
			}
			if _, list := impl.BoxOut(y, s); !slices.Equal(list, want) {
				t.Fatalf("%q, cut as %v, goes as %v, not %v", text, order, list, want)
			}
		}
	}
}

// Promise 16: what came of a stream outside is sent back, in order, and in other orders, and heard as it was.
func TestWhatIsSaidBackIsWhatWasSaid(t *testing.T) {
	r := rand.New(rand.NewSource(16))
	in, out := end(1, 7), end(100, 21)
	named := 0
	for range 150 {
		text := ""
		for range r.Intn(9) {
			line := []string{"hi", "", "none", "port 100 21", "port 50 999", impl.LinPort(someEnd(r)), impl.LinPort(in), impl.LinPort(end(9, 999))}[r.Intn(8)]
			text += line + ";"
		}
		if r.Intn(2) == 0 {
			text += "port 2"
		}
		b, far := brought(t, impl.BoxNew(nil), cutAnyhow(r, seg(in, out, 0, 0, ""), text))
		if strings.Count(far, "none;") != strings.Count(text, "none;") || far != impl.BoxFar(b, 0) {
			continue
		}
		named += strings.Count(far, "port 50 50")
		pieces := cutAnyhow(r, seg(out, end(50, 500), 0, 0, ""), far)
		for _, order := range [][]impl.SegSeg{pieces, slices.Concat(pieces, pieces), anyOrder(r, pieces)} {
			x, near := sentBack(t, b, order)
			if want := strings.TrimSuffix(text, "port 2"); near != want || x.Conns[0].Near != want || !sameTab(x.Table, b.Table) {
				t.Fatalf("%q went as %q, and came back as %q", text, far, near)
			}
		}
	}
	if named < 100 {
		t.Fatal(named)
	}
}

// Promise 71: one rule more, that allows all, behind all others.
func TestARuleThatAllowsAllSaysNothing(t *testing.T) {
	eachStep(71, func(b impl.BoxBox, s impl.SegSeg) {
		if len(b.Rules) == impl.RulMost {
			return
		}
		more := boxWith(append(slices.Clone(b.Rules), allowAll()), b.Table, b.Conns...)
		check := func(x, y impl.BoxBox) {
			t.Helper()
			if !slices.Equal(y.Rules, more.Rules) || !sameTab(x.Table, y.Table) || !slices.Equal(x.Conns, y.Conns) {
				t.Fatalf("%v brought to %v leaves %v, with one rule more %v", s, b, x, y)
			}
		}
		x, list := impl.BoxOut(b, s)
		y, same := impl.BoxOut(more, s)
		check(x, y)
		if !slices.Equal(list, same) {
			t.Fatalf("of %v goes outside %v, with one rule more %v", s, list, same)
		}
		x, list = impl.BoxIn(b, s)
		y, same = impl.BoxIn(more, s)
		check(x, y)
		if !slices.Equal(list, same) {
			t.Fatalf("of %v goes inside %v, with one rule more %v", s, list, same)
		}
		x, g, ok := impl.BoxTurn(b, s)
		y, h, good := impl.BoxTurn(more, s)
		check(x, y)
		if g != h || ok != good {
			t.Fatalf("of %v goes inside %v, %v, with one rule more %v, %v", s, g, ok, h, good)
		}
	})
}

// Promise 87.
func TestTwoWhoSendComeFromTwoPorts(t *testing.T) {
	for _, b := range okBoxes() {
		for _, one := range endsFrom(1, 9) {
			for _, two := range append(endsFrom(1, 9), end(1, 8), end(7, 1), end(9, 999)) {
				x, list := impl.BoxOut(b, seg(one, end(101, 7), 0, 0, "x"))
				_, other := impl.BoxOut(x, seg(two, end(101, 7), 0, 0, "y"))
				if len(list) == 1 && len(other) == 1 && (list[0].Src == other[0].Src) != (one == two) {
					t.Fatalf("%v and %v send from %v and %v", one, two, list, other)
				}
				if one == two && len(list) != len(other) {
					t.Fatalf("%v sends %v, and then %v", one, list, other)
				}
			}
		}
	}
}

// Promise 97: a line that names a port, by each number of ends, and each port; and then all other ends get ports.
func TestWhoGetsAPortLateIsNamedLate(t *testing.T) {
	in, out := end(1, 7), end(100, 21)
	for many := 1; many <= impl.MapMost; many++ {
		for port := 498; port < 508; port++ {
			line := impl.LinPort(end(50, port)) + ";"
			b := boxWith(nil, tab(endsFrom(1, many)...), conn(in, out, "", "", ""))
			b, list := checkBoxIn(t, b, seg(out, end(50, 500), 0, 0, line))
			want := line
			if e, has := impl.MapEnd(b.Table, port); has {
				want = impl.LinPort(e) + ";"
			}
			if has := port >= 500 && port < 500+many; has == (want == line) || !slices.Equal(list, []impl.SegSeg{seg(out, in, 0, 0, want)}) {
				t.Fatalf("%q goes inside as %v by %v", line, list, b.Table)
			}
			for k := many; k < impl.MapMost; k++ {
				b, _ = checkBoxOut(t, b, seg(end(1+k, 7), end(100, 7), 0, 0, "x"))
			}
			x, list := checkBoxIn(t, b, seg(out, end(50, 500), 0, 0, line))
			if x.Conns[0].Near != want || !slices.Equal(list, []impl.SegSeg{seg(out, in, 0, 0, want)}) {
				t.Fatalf("%q went inside as %q, and then as %v by %v", line, want, list, x.Table)
			}
			y, _ := checkBoxIn(t, x, seg(out, end(50, 500), len(line), 0, line))
			late := line
			if port >= 500 && port < 506 {
				late = impl.LinPort(end(port-499, 7)) + ";"
			}
			if y.Conns[0].Near != want+late {
				t.Fatalf("%q went inside as %q, and once more as %q", line, want, y.Conns[0].Near)
			}
		}
	}
}

// roomyBox is a box whose lists have room behind their ends, full of what stands nowhere else; and all of these lists.
func roomyBox(b impl.BoxBox) (impl.BoxBox, []impl.RulRule, []impl.EndPoint, []impl.BoxConn) {
	rules := append(slices.Clone(b.Rules), slices.Repeat([]impl.RulRule{denyAll()}, 4)...)
	ends := append(slices.Clone(b.Table.Ends), end(8, 801), end(8, 802), end(8, 803))
	conns := append(slices.Clone(b.Conns), conn(end(8, 801), end(108, 21), "a;", "b;", "b;"), conn(end(8, 802), end(108, 21), "", "", ""), conn(end(8, 803), end(108, 21), "", "", ""))
	return boxWith(rules[:len(b.Rules)], tab(ends[:len(b.Table.Ends)]...), conns[:len(b.Conns)]...), rules, ends, conns
}

// boxAnswers is all boxes and segments that chapter 7 answers of a box and a segment.
func boxAnswers(b impl.BoxBox, s impl.SegSeg) ([]impl.BoxBox, [][]impl.SegSeg) {
	x, list := impl.BoxOut(b, s)
	y, back := impl.BoxIn(b, s)
	z, g, _ := impl.BoxTurn(b, s)
	impl.BoxOk(b)
	impl.BoxFar(b, 0)
	return []impl.BoxBox{x, y, z, impl.BoxNew(b.Rules)}, [][]impl.SegSeg{list, back, {g}}
}

// turnBox writes over all lists of a box, and over what room there is behind them.
func turnBox(b impl.BoxBox) {
	for k := range b.Rules[:cap(b.Rules)] {
		b.Rules[:cap(b.Rules)][k] = rule(true, -7, -7, -7, -7, -7, -7)
	}
	overwrite(b.Table.Ends)
	for k := range b.Conns[:cap(b.Conns)] {
		b.Conns[:cap(b.Conns)][k] = conn(end(-7, -7), end(-7, -7), "x", "y", "z")
	}
}

// No list of an argument is turned, nor what is behind its end; to write to an answer turns neither the argument, nor another answer, nor what is answered later; and to write to the argument turns no answer.
func TestBoxesShareNoMemory(t *testing.T) {
	segs := []impl.SegSeg{
		seg(end(1, 7), end(100, 21), 0, 0, "port 6 6;"), seg(end(1, 7), end(100, 21), 23, 3, " 8;"), seg(end(5, 5), end(105, 21), 0, 0, "port 6 6;x"), seg(end(5, 5), end(100, 7), 0, 0, "x"),
		seg(end(100, 21), end(50, 500), 0, 0, "port 50 501;"), seg(end(100, 21), end(50, 500), 28, 0, ";"), seg(end(100, 7), end(50, 500), 0, 0, "x"), seg(end(5, 5), end(50, 500), 0, 0, "x"),
		{}, plainSeg("A"), seg(end(2, 3), end(100, 21), 0, 0, "hi;"),
	}
	for _, b := range append(okBoxes(), badBoxes()[:40]...) {
		for _, s := range segs {
			mine, rules, ends, conns := roomyBox(b)
			wasRules, wasEnds, wasConns := slices.Clone(rules), slices.Clone(ends), slices.Clone(conns)
			same := func() bool {
				return slices.Equal(rules, wasRules) && slices.Equal(ends, wasEnds) && slices.Equal(conns, wasConns)
			}
			boxes, lists := boxAnswers(mine, s)
			want, wantLists := boxAnswers(b, s)
			if !same() || !slices.EqualFunc(boxes, want, sameBox) || !slices.EqualFunc(lists, wantLists, slices.Equal[[]impl.SegSeg]) {
				t.Fatalf("%v brought to %v turned it to %v, or let go %v, not %v", s, b, mine, lists, wantLists)
			}
			for k := range boxes {
				turnBox(boxes[k])
				if k < 2 {
					turnSegs(lists[k])
				}
				if !same() || !slices.EqualFunc(boxes[k+1:], want[k+1:], sameBox) || k < 2 && !slices.EqualFunc(lists[k+1:], wantLists[k+1:], slices.Equal[[]impl.SegSeg]) {
					t.Fatalf("to write to what came of %v turned others", s)
				}
			}
			later, laterLists := boxAnswers(mine, s)
			turnBox(mine)
			if !slices.EqualFunc(later, want, sameBox) || !slices.EqualFunc(laterLists, wantLists, slices.Equal[[]impl.SegSeg]) {
				t.Fatalf("%v brought to %v once more leaves %v, not %v", s, b, later, want)
			}
		}
	}
}

// Calls at the same time, of one box, answer as one by itself; and none leaves a goroutine behind.
func TestCallsAtTheSameTime(t *testing.T) {
	before := runtime.NumGoroutine()
	b := busyBox()
	var wait sync.WaitGroup
	for range 8 {
		wait.Go(func() {
			for _, s := range plainSegs() {
				x, list := impl.BoxOut(b, s)
				want, wantList := wantBoxOut(b, s)
				y, back := impl.BoxIn(b, s)
				wantIn, wantBack := wantBoxIn(b, s)
				if !sameBox(x, want) || !sameBox(y, wantIn) || !slices.Equal(list, wantList) || !slices.Equal(back, wantBack) {
					t.Errorf("%v brought to %v leaves %v and %v", s, b, x, y)
				}
			}
		})
	}
	wait.Wait()
	for tries := 0; runtime.NumGoroutine() > before; tries++ {
		if tries == 500 {
			t.Fatalf("there were %d goroutines, and now there are %d", before, runtime.NumGoroutine())
		}
		time.Sleep(time.Millisecond)
	}
}
