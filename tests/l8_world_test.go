package tests

import (
	"bytes"
	"fmt"
	"math"
	"math/rand"
	"runtime"
	"slices"
	"strings"
	"sync"
	"testing"
	"time"

	"loop.example/hatchway/impl"
)

func sameMsg(a, b impl.NetMsg) bool {
	return a.To == b.To && a.Bent == b.Bent && bytes.Equal(a.Bytes, b.Bytes)
}

func sameWorld(a, b impl.WldWorld) bool {
	return sameBox(a.Box, b.Box) && a.Out == b.Out && slices.Equal(a.Sides, b.Sides) && slices.EqualFunc(a.Net, b.Net, sameMsg) && slices.Equal(a.Told, b.Told)
}

func isNoWorld(w impl.WldWorld) bool {
	return sameWorld(w, impl.WldWorld{})
}

func clonedWorld(w impl.WldWorld) impl.WldWorld {
	var net []impl.NetMsg
	for _, m := range w.Net {
		net = append(net, impl.NetMsg{To: m.To, Bent: m.Bent, Bytes: slices.Clone(m.Bytes)})
	}
	return impl.WldWorld{Box: clonedBox(w.Box), Out: w.Out, Sides: slices.Clone(w.Sides), Net: net, Told: slices.Clone(w.Told)}
}

// msg is a segment on its way.
func msg(to int, s impl.SegSeg) impl.NetMsg {
	return impl.NetMsg{To: to, Bytes: wantBytes(s)}
}

// event is what happens, with all its numbers.
func event(kind, who, at, n, v int) impl.EvEvent {
	return impl.EvEvent{Kind: kind, Who: who, At: at, N: n, V: v}
}

// wantWldOk is WldOk, asked part by part.
func wantWldOk(w impl.WldWorld) bool {
	if !wantBoxOk(w.Box) || wantSide(w.Out.Addr) != outside || w.Out.Port != 21 || len(w.Sides) != 2 || w.Sides[0].In == w.Sides[1].In || len(w.Net) > 60 || len(w.Told) > 60 {
		return false
	}
	for _, s := range w.Sides {
		if wantSide(s.In.Addr) != inside || !wantEnd(s.In) || !wantStr(s.Says) || !wantStr(s.Backs) || len(s.Got) > 240 || len(s.Came) > 240 {
			return false
		}
		if s.Acked < 0 || s.Acked > len(s.Says) || s.Heard < 0 || s.Heard > len(s.Backs) {
			return false
		}
	}
	for _, m := range w.Net {
		if m.To < 1 || m.To > 4 || len(m.Bytes) > 27 {
			return false
		}
	}
	return !slices.ContainsFunc(w.Told, func(e impl.EndPoint) bool { return wantSide(e.Addr) != inside || !wantEnd(e) })
}

// wantGo is a world, and segments that go on their way in it, as far as there is room.
func wantGo(w impl.WldWorld, to int, list ...impl.SegSeg) impl.WldWorld {
	for _, s := range list {
		if len(w.Net) < 60 && wantSegOk(s) {
			w.Net = append(w.Net, msg(to, s))
		}
	}
	return w
}

// wantStep is WldStep, by what the other chapters' tests want.
func wantStep(w impl.WldWorld, e impl.EvEvent) impl.WldWorld {
	if !wantWldOk(w) {
		return impl.WldWorld{}
	}
	w = clonedWorld(w)
	if e.Kind >= 3 && e.Kind <= 6 {
		if e.At >= 0 && e.At < len(w.Net) {
			w = wantOfMsg(w, e)
		}
		return w
	}
	if e.Who != 0 && e.Who != 1 {
		return w
	}
	one := w.Sides[e.Who]
	port := end(50, slices.Index(w.Box.Table.Ends, one.In)+500)
	fits := func(s string) bool { return e.At >= 0 && e.At <= len(s) && e.N >= 0 && e.N <= 12 }
	switch {
	case e.Kind == 1 && fits(one.Says):
		return wantGo(w, 1, seg(one.In, w.Out, e.At, len(one.Came), one.Says[e.At:min(len(one.Says), e.At+e.N)]))
	case e.Kind == 2 && port.Port >= 500 && fits(one.Backs):
		return wantGo(w, 3, seg(w.Out, port, e.At, len(one.Got), one.Backs[e.At:min(len(one.Backs), e.At+e.N)]))
	case e.Kind == 7 && e.At >= 1 && e.At <= 999:
		return wantGo(w, 3, seg(end(109, 7), end(50, e.At), 0, 0, "word"))
	case e.Kind == 8 && e.At >= 1 && e.At <= 999:
		return wantGo(w, 1, seg(one.In, end(50, e.At), 0, 0, "word"))
	}
	return w
}

// wantOfMsg is what happens to a message that is there.
func wantOfMsg(w impl.WldWorld, e impl.EvEvent) impl.WldWorld {
	m := w.Net[e.At]
	switch e.Kind {
	case 3, 4:
		w.Net = slices.Delete(w.Net, e.At, e.At+1)
		if s, ok := wantSeg(m.Bytes); ok && e.Kind == 3 {
			return wantHear(w, m.To, s)
		}
	case 5:
		if len(w.Net) < 60 {
			w.Net = append(w.Net, impl.NetMsg{To: m.To, Bent: m.Bent, Bytes: slices.Clone(m.Bytes)})
		}
	case 6:
		if !m.Bent && e.N >= 0 && e.N < len(m.Bytes) && e.V >= 1 && e.V <= 255 {
			w.Net[e.At].Bytes[e.N] ^= byte(e.V)
			w.Net[e.At].Bent = true
		}
	}
	return w
}

// wantHear is a world to which a segment comes.
func wantHear(w impl.WldWorld, to int, s impl.SegSeg) impl.WldWorld {
	var list []impl.SegSeg
	switch {
	case to == 1 && s.Dst.Addr == 50:
		var ok bool
		w.Box, s, ok = wantBoxTurn(w.Box, s)
		if ok {
			w = wantGo(w, 4, s)
		}
	case to == 1:
		w.Box, list = wantBoxOut(w.Box, s)
		w = wantGo(w, 2, list...)
	case to == 3:
		w.Box, list = wantBoxIn(w.Box, s)
		w = wantGo(w, 4, list...)
	case to == 2:
		for k := range w.Sides {
			one := &w.Sides[k]
			if has := slices.Index(w.Box.Table.Ends, one.In); has >= 0 && s.Dst == w.Out && s.Src == end(50, 500+has) {
				wantCome(&one.Heard, &one.Got, one.Backs, s)
			}
		}
	case to == 4:
		for k := range w.Sides {
			one := &w.Sides[k]
			if s.Src == w.Out && s.Dst == one.In {
				wantCome(&one.Acked, &one.Came, one.Says, s)
				return w
			}
		}
		if s.Data != "" && len(w.Told) < 60 {
			w.Told = append(w.Told, s.Dst)
		}
	}
	return w
}

// wantCome turns how much of a stream is said to be there, and what of the other one has come.
func wantCome(there *int, come *string, stream string, s impl.SegSeg) {
	for *there < s.Ack && *there < len(stream) {
		*there++
	}
	if more := wantAdd(*come, s); len(more) <= 240 {
		*come = more
	}
}

// wantRound is a calm round, step by step.
func wantRound(w impl.WldWorld) impl.WldWorld {
	hear := func() {
		for range 2 {
			for range len(w.Net) {
				w = wantStep(w, event(3, 0, 0, 0, 0))
			}
		}
	}
	for who := range 2 {
		known := func() (int, int) {
			k := connOf(w.Box, w.Sides[who].In, w.Out)
			if k < 0 {
				return 0, 0
			}
			return len(w.Box.Conns[k].Known), len(w.Box.Conns[k].Heard)
		}
		hear()
		sent, _ := known()
		w = wantStep(w, event(1, who, w.Sides[who].Acked, 12, 0))
		hear()
		w = wantStep(w, event(1, who, sent, 12, 0))
		hear()
		_, back := known()
		w = wantStep(w, event(2, who, w.Sides[who].Heard, 12, 0))
		hear()
		w = wantStep(w, event(2, who, back, 12, 0))
		hear()
	}
	return w
}

// checkStep holds WldStep against what is wanted.
func checkStep(t *testing.T, w impl.WldWorld, e impl.EvEvent) impl.WldWorld {
	t.Helper()
	want := wantStep(w, e)
	got := impl.WldStep(w, e)
	if !sameWorld(got, want) {
		t.Fatalf("%v of %s leaves %s, not %s", e, brief(w), brief(got), brief(want))
	}
	return got
}

// checkRun holds WldRun against one step behind the other.
func checkRun(t *testing.T, w impl.WldWorld, events ...impl.EvEvent) impl.WldWorld {
	t.Helper()
	want := w
	for _, e := range events {
		want = checkStep(t, want, e)
	}
	got := impl.WldRun(w, events)
	if !sameWorld(got, want) {
		t.Fatalf("%v of %s leaves %s, not %s", events, brief(w), brief(got), brief(want))
	}
	return got
}

// twoSides is two inside, both of whom name ends.
func twoSides() []impl.WldSide {
	return []impl.WldSide{worldSide(end(1, 7), "hi;port 2 3;bye;", "ok;port 50 501;"), worldSide(end(2, 7), "port 2 3;port 1 7;x", "no;port 50 500")}
}

func plainWorld() impl.WldWorld {
	return impl.WldNew(nil, end(100, 21), twoSides())
}

// busyWorld is a world of which each part has something, made by hand.
func busyWorld() impl.WldWorld {
	return impl.WldWorld{
		Box: boxWith([]impl.RulRule{rule(false, 3, 3, 100, 109, 1, 999), allowAll()}, tab(end(1, 7), end(2, 3), end(2, 7)),
			conn(end(1, 7), end(100, 21), "hi;port 2 3;by", "ok;", "ok;"), conn(end(2, 7), end(100, 21), "", "", "")),
		Out: end(100, 21),
		Sides: []impl.WldSide{
			{In: end(1, 7), Says: "hi;port 2 3;bye;", Acked: 3, Got: "hi;port 50 501;", Backs: "ok;port 50 501;", Heard: 1, Came: "ok;"},
			{In: end(2, 7), Says: "port 2 3;port 1 7;x", Backs: "no;port 50 500"},
		},
		Net: []impl.NetMsg{
			msg(impl.ToBoxOut, seg(end(1, 7), end(100, 21), 12, 3, "bye;")),
			{To: impl.ToBoxIn, Bent: true, Bytes: []byte{1, 2, 3}},
			msg(impl.ToIn, seg(end(109, 7), end(2, 3), 0, 0, "word")),
			msg(impl.ToOut, seg(end(50, 500), end(100, 21), 3, 2, "port 50 501;")),
			{To: impl.ToIn},
		},
		Told: []impl.EndPoint{end(2, 3), end(1, 7), end(2, 3)},
	}
}

// okWorlds is worlds that are ok, at the edges of what may be.
func okWorlds() []impl.WldWorld {
	list := []impl.WldWorld{plainWorld(), busyWorld()}
	with := func(turn func(w *impl.WldWorld)) {
		w := busyWorld()
		turn(&w)
		list = append(list, w)
	}
	with(func(w *impl.WldWorld) { w.Box = impl.BoxBox{} })
	with(func(w *impl.WldWorld) { w.Box = fullBox() })
	with(func(w *impl.WldWorld) { w.Box = okBoxes()[14] })
	with(func(w *impl.WldWorld) { w.Out = end(109, 21) })
	with(func(w *impl.WldWorld) { w.Sides[0].In, w.Sides[1].In = end(9, 999), end(1, 1) })
	with(func(w *impl.WldWorld) { w.Sides[1].In = end(1, 8) })
	with(func(w *impl.WldWorld) {
		w.Sides[0] = impl.WldSide{In: end(1, 7), Says: strings.Repeat(";", 120), Acked: 120, Got: strings.Repeat("\xff", 240), Backs: "A"[1:], Came: strings.Repeat("A", 240)}
	})
	with(func(w *impl.WldWorld) {
		w.Sides[1] = impl.WldSide{In: end(2, 7), Says: "x", Acked: 1, Backs: strings.Repeat("port 50 500;", 10), Heard: 120, Came: ";\x00"}
	})
	with(func(w *impl.WldWorld) { w.Net, w.Told = nil, nil })
	with(func(w *impl.WldWorld) { w.Net, w.Told = []impl.NetMsg{}, []impl.EndPoint{} })
	with(func(w *impl.WldWorld) { w.Net = slices.Repeat(w.Net, 12) })
	with(func(w *impl.WldWorld) { w.Net = slices.Repeat(w.Net, 12)[:59] })
	with(func(w *impl.WldWorld) {
		w.Net = []impl.NetMsg{{To: 1, Bytes: make([]byte, 27)}, {To: 4, Bent: true, Bytes: bytes.Repeat([]byte{255}, 27)}}
	})
	with(func(w *impl.WldWorld) { w.Told = slices.Repeat(w.Told, 20) })
	with(func(w *impl.WldWorld) { w.Told = slices.Repeat(w.Told, 20)[:59] })
	for k, x := range allWalks() {
		if k%9 == 0 {
			list = append(list, x.worlds[len(x.worlds)/2], x.last())
		}
	}
	return list
}

// badWorlds is worlds that are not ok for one part alone.
func badWorlds() []impl.WldWorld {
	list := []impl.WldWorld{{}}
	with := func(turn func(w *impl.WldWorld)) {
		for _, w := range []impl.WldWorld{plainWorld(), busyWorld()} {
			turn(&w)
			list = append(list, w)
		}
	}
	for k, b := range badBoxes() {
		if k < 25 || k%17 == 0 {
			with(func(w *impl.WldWorld) { w.Box = b })
		}
	}
	for _, e := range append(notOutside(), end(100, 20), end(100, 22), end(109, 999), end(100, 21+1<<32)) {
		with(func(w *impl.WldWorld) { w.Out = e })
	}
	for _, many := range []int{0, 1, 3, 4, 100} {
		with(func(w *impl.WldWorld) {
			w.Sides = append(w.Sides, worldSide(end(3, 7), "", ""))
			w.Sides = slices.Repeat(w.Sides, 40)[:many]
		})
	}
	with(func(w *impl.WldWorld) { w.Sides = append(w.Sides, worldSide(end(3, 7), "", "")) })
	with(func(w *impl.WldWorld) { w.Sides[1].In = w.Sides[0].In })
	with(func(w *impl.WldWorld) { w.Sides[1] = w.Sides[0] })
	for who := range 2 {
		for _, e := range append(notInside(), impl.EndPoint{}) {
			with(func(w *impl.WldWorld) { w.Sides[who].In = e })
		}
		for _, s := range noStreams() {
			with(func(w *impl.WldWorld) { w.Sides[who].Says, w.Sides[who].Acked = s, 0 })
			with(func(w *impl.WldWorld) { w.Sides[who].Backs, w.Sides[who].Heard = s, 0 })
		}
		for _, many := range []int{241, 242, 256, 480, 1 << 16} {
			with(func(w *impl.WldWorld) { w.Sides[who].Got = strings.Repeat(";", many) })
			with(func(w *impl.WldWorld) { w.Sides[who].Came = strings.Repeat("a", many) })
		}
		for _, n := range []int{-1, -2, -1 << 32, math.MinInt} {
			with(func(w *impl.WldWorld) { w.Sides[who].Acked = n })
			with(func(w *impl.WldWorld) { w.Sides[who].Heard = n })
		}
		for _, n := range []int{1, 2, 120, 1 << 32, math.MaxInt - 20} {
			with(func(w *impl.WldWorld) { w.Sides[who].Acked = len(w.Sides[who].Says) + n })
			with(func(w *impl.WldWorld) { w.Sides[who].Heard = len(w.Sides[who].Backs) + n })
		}
	}
	one := msg(impl.ToIn, plainSeg("hi;"))
	for _, many := range []int{61, 62, 120, 1000} {
		with(func(w *impl.WldWorld) { w.Net = slices.Repeat([]impl.NetMsg{one}, many) })
		with(func(w *impl.WldWorld) { w.Told = slices.Repeat([]impl.EndPoint{end(2, 3)}, many) })
	}
	for _, to := range []int{math.MinInt, -1 << 32, -1, 0, 5, 6, 256 + 1, 1<<32 + 1, math.MaxInt} {
		with(func(w *impl.WldWorld) { w.Net = append(w.Net, impl.NetMsg{To: to, Bytes: one.Bytes}) })
		with(func(w *impl.WldWorld) { w.Net = append([]impl.NetMsg{{To: to}}, w.Net...) })
	}
	for _, many := range []int{28, 29, 256 + 20, 1 << 16} {
		with(func(w *impl.WldWorld) { w.Net = append(w.Net, impl.NetMsg{To: 1, Bytes: make([]byte, many)}, one) })
	}
	for _, e := range append(notInside(), impl.EndPoint{}) {
		with(func(w *impl.WldWorld) { w.Told = append(w.Told, e, end(1, 7)) })
	}
	return list
}

// notOutside is ends of other sides, and what is no end.
func notOutside() []impl.EndPoint {
	return []impl.EndPoint{{}, end(1, 21), end(9, 21), end(50, 21), end(99, 21), end(110, 21), end(10, 21), end(100, 0), end(100, -21), end(-100, 21), end(100, 1021), end(100+1<<32, 21), end(math.MinInt, 21), end(math.MaxInt, 21)}
}

// noStreams is texts that are no streams.
func noStreams() []string {
	return []string{"A", "hi;A;", "a\n;", "\x00;", "a;\xff", strings.Repeat("a", 17), "hi;" + strings.Repeat("a", 17) + ";", strings.Repeat(";", 121), strings.Repeat("port 1 7;", 14), strings.Repeat("a;", 500)}
}

// Promise 50.
func TestWldNew(t *testing.T) {
	rules := [][]impl.RulRule{nil, {}, {denySome()}, {denySome(), allowAll()}, slices.Repeat([]impl.RulRule{denyAll()}, 5)}
	streams := []string{"", ";", "hi;port 2 3;bye", "x", strings.Repeat("port 9 999;", 10) + "port 1 7", strings.Repeat(";", 120), strings.Repeat("z", 16)}
	for k, list := range rules {
		for i, says := range streams {
			for _, backs := range streams {
				for _, ends := range [][2]impl.EndPoint{{end(1, 7), end(2, 7)}, {end(9, 999), end(9, 998)}, {end(1, 1), end(2, 1)}, {end(3, 500), end(1, 500)}} {
					out := end(100+2*k+i%2, 21)
					sides := []impl.WldSide{worldSide(ends[0], says, backs), worldSide(ends[1], backs, says)}
					want := impl.WldWorld{Box: boxWith(list, tab()), Out: out, Sides: sides}
					if got := impl.WldNew(list, out, sides); !sameWorld(got, want) || !impl.WldOk(got) {
						t.Fatalf("WldNew(%v, %v, %v) = %v", list, out, sides, got)
					}
					// What has come, and what is said to be there, is not taken over, whether it may be or not.
					used := slices.Clone(sides)
					used[0].Acked, used[0].Got, used[0].Heard, used[0].Came = 1, "x", 1, "y"
					used[1].Acked, used[1].Got, used[1].Heard, used[1].Came = -1, strings.Repeat("A", 300), 999, strings.Repeat("B", 300)
					if got := impl.WldNew(list, out, used); !sameWorld(got, want) {
						t.Fatalf("WldNew(%v, %v, %v) = %v", list, out, used, got)
					}
				}
			}
		}
	}
}

// Promise 50: each way in which a world is none.
func TestWldNewOfWhatIsNotOk(t *testing.T) {
	check := func(rules []impl.RulRule, out impl.EndPoint, sides []impl.WldSide) {
		t.Helper()
		if got := impl.WldNew(rules, out, sides); !isNoWorld(got) {
			t.Errorf("WldNew(%s, %v, %s) = %v", brief(rules), out, brief(sides), got)
		}
	}
	out := end(100, 21)
	for _, rules := range badRules() {
		check(rules, out, twoSides())
	}
	for _, e := range append(notOutside(), end(100, 20), end(100, 22), end(109, 999), end(100, 21+1<<32)) {
		check(nil, e, twoSides())
	}
	check(nil, out, nil)
	check(nil, out, []impl.WldSide{})
	check(nil, out, twoSides()[:1])
	check(nil, out, append(twoSides(), worldSide(end(3, 7), "", "")))
	check(nil, out, slices.Repeat(twoSides(), 2))
	check(nil, out, slices.Repeat(twoSides(), 1000))
	check(nil, out, []impl.WldSide{worldSide(end(1, 7), "a;", "b;"), worldSide(end(1, 7), "c;", "d;")})
	check(nil, out, []impl.WldSide{worldSide(end(1, 7), "", ""), worldSide(end(1, 7), "", "")})
	for who := range 2 {
		for _, e := range append(notInside(), impl.EndPoint{}) {
			sides := twoSides()
			sides[who].In = e
			check(nil, out, sides)
		}
		for _, s := range noStreams() {
			sides := twoSides()
			sides[who].Says = s
			check(nil, out, sides)
			sides = twoSides()
			sides[who].Backs = s
			check([]impl.RulRule{allowAll()}, out, sides)
		}
	}
}

// Promises 47 and 75.
func TestWldOk(t *testing.T) {
	for _, w := range okWorlds() {
		if !impl.WldOk(w) || !wantWldOk(w) {
			t.Errorf("%s is not ok", brief(w))
		}
	}
	for _, w := range badWorlds() {
		if impl.WldOk(w) || wantWldOk(w) {
			t.Errorf("%s is ok", brief(w))
		}
	}
}

// Promise 47: whatever is to happen to a world that is not ok, it is nothing.
func TestWorldsThatAreNotOk(t *testing.T) {
	for _, w := range badWorlds() {
		for kind := -1; kind < 10; kind++ {
			if got := impl.WldStep(w, event(kind, 0, 0, 1, 1)); !isNoWorld(got) {
				t.Errorf("Kind %d of %s leaves %s", kind, brief(w), brief(got))
			}
		}
		for _, events := range [][]impl.EvEvent{nil, {}, {{}}, {{Kind: impl.EvSend, N: 3}, {Kind: impl.EvHear}}} {
			if got := impl.WldRun(w, events); !isNoWorld(got) {
				t.Errorf("%v of %s leaves %s", events, brief(w), brief(got))
			}
		}
		for _, n := range []int{math.MinInt, -1, 0, 1, 2, 100, 101} {
			if got := impl.WldCalm(w, n); !isNoWorld(got) {
				t.Errorf("%d rounds of %s leave %s", n, brief(w), brief(got))
			}
		}
		for who := -1; who < 4; who++ {
			if known, heard := impl.WldKnown(w, who); known != "" || heard != "" {
				t.Errorf("of %d of %s are known %q and %q", who, brief(w), known, heard)
			}
		}
	}
}

// Each step of each walk, against what is wanted.
func TestWldStepAtEachStep(t *testing.T) {
	kinds := map[int]int{}
	for k, x := range allWalks() {
		for at, e := range x.events {
			if (at/20+k)%4 == 0 {
				if want := wantStep(x.worlds[at], e); !sameWorld(x.worlds[at+1], want) {
					t.Fatalf("%v of %v leaves %v, not %v", e, x.worlds[at], x.worlds[at+1], want)
				}
				kinds[e.Kind]++
			}
		}
	}
	for kind := impl.EvSend; kind <= impl.EvWord; kind++ {
		if kinds[kind] < 20 {
			t.Error(kinds)
		}
	}
}

// Each Kind, and what is none, with numbers of all sizes, in worlds made by hand.
func TestWldStepOfAnyNumbers(t *testing.T) {
	numbers := []int{math.MinInt, -1 << 32, -1, 0, 1, 2, 4, 11, 12, 13, 16, 26, 27, 59, 60, 120, 121, 255, 256, 500, 501, 999, 1000, 1 << 32, math.MaxInt}
	r := rand.New(rand.NewSource(80))
	for k, w := range okWorlds() {
		if k > 25 {
			break
		}
		for kind := -1; kind < 10; kind++ {
			for _, n := range numbers {
				some := func() int { return numbers[r.Intn(len(numbers))] }
				checkStep(t, w, event(kind, n, 0, 1, 1))
				checkStep(t, w, event(kind, r.Intn(2), n, 1, 1))
				checkStep(t, w, event(kind, r.Intn(2), r.Intn(3), n, 1))
				checkStep(t, w, event(kind, r.Intn(2), r.Intn(3), 1, n))
				checkStep(t, w, event(kind, some(), some(), some(), some()))
			}
		}
		for _, kind := range append(numbers, -5, 9, 10, 1<<8+1, 1<<16+3, 1<<32+3) {
			if kind >= 1 && kind <= 8 {
				continue
			}
			if got := impl.WldStep(w, event(kind, 0, 0, 1, 1)); !sameWorld(got, w) {
				t.Fatalf("Kind %d of %v leaves %v", kind, w, got)
			}
		}
	}
}

// newest is the segment of the last message of a world, if it has one more than another one, and all these.
func newest(t *testing.T, was, now impl.WldWorld) (impl.NetMsg, impl.SegSeg) {
	t.Helper()
	many := len(was.Net)
	if len(now.Net) != many+1 {
		t.Fatalf("%v became %v", was.Net, now.Net)
	}
	m := now.Net[many]
	now.Net = now.Net[:many]
	if !sameWorld(now, was) {
		t.Fatalf("%v became %v", was, now)
	}
	s, ok := wantSeg(m.Bytes)
	if !ok || m.Bent {
		t.Fatal(m)
	}
	return m, s
}

// What is sent of a stream, from which place on, and how much, where there is some; and promise 92.
func TestEvSendByHand(t *testing.T) {
	for _, first := range []impl.WldWorld{plainWorld(), busyWorld()} {
		for who, says := range []string{"hi;port 2 3;bye;", "port 2 3;port 1 7;x"} {
			for at := -2; at < len(says)+3; at++ {
				for n := -2; n < 16; n++ {
					w := checkStep(t, first, event(impl.EvSend, who, at, n, 77))
					if at < 0 || at > len(says) || n < 0 || n > 12 {
						if !sameWorld(w, first) {
							t.Fatalf("to send %d from %d on leaves %v", n, at, w)
						}
						continue
					}
					m, s := newest(t, first, w)
					want := seg(first.Sides[who].In, end(100, 21), at, len(first.Sides[who].Came), says[at:min(len(says), at+n)])
					if s != want || m.To != impl.ToBoxOut {
						t.Fatalf("to send %d from %d on is %v, %v", n, at, m, s)
					}
				}
			}
		}
	}
}

// What is sent back likewise, to who has a port; to who has none nothing is.
func TestEvReplyByHand(t *testing.T) {
	first := busyWorld()
	for who, backs := range []string{"ok;port 50 501;", "no;port 50 500"} {
		for at := -2; at < len(backs)+3; at++ {
			for n := -2; n < 16; n++ {
				if got := checkStep(t, plainWorld(), event(impl.EvReply, who, at, n, 0)); !sameWorld(got, plainWorld()) {
					t.Fatalf("to send back to who has no port leaves %v", got)
				}
				w := checkStep(t, first, event(impl.EvReply, who, at, n, 0))
				if at < 0 || at > len(backs) || n < 0 || n > 12 {
					if !sameWorld(w, first) {
						t.Fatalf("to send back %d from %d on leaves %v", n, at, w)
					}
					continue
				}
				m, s := newest(t, first, w)
				want := seg(end(100, 21), end(50, 500+2*who), at, len(first.Sides[who].Got), backs[at:min(len(backs), at+n)])
				if s != want || m.To != impl.ToBoxIn {
					t.Fatalf("to send back %d from %d on is %v, %v", n, at, m, s)
				}
			}
		}
	}
}

// Words, to each port, from outside and from inside.
func TestEvDataAndEvWordByHand(t *testing.T) {
	for _, first := range []impl.WldWorld{plainWorld(), busyWorld()} {
		for _, port := range []int{1, 7, 21, 499, 500, 501, 505, 506, 998, 999} {
			for who := range 2 {
				m, s := newest(t, first, checkStep(t, first, event(impl.EvData, who, port, -5, 300)))
				if m.To != impl.ToBoxIn || s != seg(end(109, 7), end(50, port), 0, 0, "word") {
					t.Fatalf("a word to %d is %v, %v", port, m, s)
				}
				m, s = newest(t, first, checkStep(t, first, event(impl.EvWord, who, port, 99, -1)))
				if m.To != impl.ToBoxOut || s != seg(first.Sides[who].In, end(50, port), 0, 0, "word") {
					t.Fatalf("a word to %d is %v, %v", port, m, s)
				}
			}
			for _, who := range []int{math.MinInt, -1, 2, 3, math.MaxInt} {
				for _, kind := range []int{impl.EvData, impl.EvWord, impl.EvSend, impl.EvReply} {
					if got := checkStep(t, first, event(kind, who, port%10, 1, 1)); !sameWorld(got, first) {
						t.Fatalf("Kind %d of %d leaves %v", kind, who, got)
					}
				}
			}
		}
		for _, port := range []int{math.MinInt, -500, -1, 0, 1000, 1001, 500 + 1<<16, 500 + 1<<32, math.MaxInt} {
			for _, kind := range []int{impl.EvData, impl.EvWord} {
				if got := checkStep(t, first, event(kind, 0, port, 0, 0)); !sameWorld(got, first) {
					t.Fatalf("Kind %d to %d leaves %v", kind, port, got)
				}
			}
		}
	}
}

// withNet is the world by hand with some messages on their way.
func withNet(net ...impl.NetMsg) impl.WldWorld {
	w := busyWorld()
	w.Net = net
	return w
}

// EvHear of each place a message is on its way to: to the box, and not; from who may, and who may not; to a port that an end has, and that nobody has; promises 43, 45 and 91 by hand.
func TestEvHearByHand(t *testing.T) {
	in, out := end(1, 7), end(100, 21)
	for _, c := range []struct {
		m     impl.NetMsg
		goes  []impl.NetMsg
		ends  int
		conns int
	}{
		{msg(1, seg(in, out, 14, 3, "e;")), []impl.NetMsg{msg(2, seg(end(50, 500), out, 15, 3, "bye;"))}, 3, 2},
		{msg(1, seg(in, out, 16, 3, "e;")), []impl.NetMsg{msg(2, seg(end(50, 500), out, 15, 3, ""))}, 3, 2},
		{msg(1, seg(in, out, 0, 0, "")), []impl.NetMsg{msg(2, seg(end(50, 500), out, 0, 0, "hi;port 50 5")), msg(2, seg(end(50, 500), out, 12, 0, "01;"))}, 3, 2},
		{msg(1, seg(end(4, 4), out, 0, 0, "port 5 5;")), []impl.NetMsg{msg(2, seg(end(50, 503), out, 0, 0, "port 50 504;"))}, 5, 3},
		{msg(1, seg(end(4, 4), end(100, 7), 9, 8, "x")), []impl.NetMsg{msg(2, seg(end(50, 503), end(100, 7), 9, 8, "x"))}, 4, 2},
		{msg(1, seg(end(3, 4), out, 0, 0, "port 5 5;")), nil, 3, 2},
		{msg(1, seg(out, out, 0, 0, "x")), nil, 3, 2},
		{msg(1, seg(in, end(2, 3), 0, 0, "x")), nil, 3, 2},
		{msg(1, seg(in, end(50, 501), 0, 0, "word")), []impl.NetMsg{msg(4, seg(end(50, 500), end(2, 3), 0, 0, "word"))}, 3, 2},
		{msg(1, seg(in, end(50, 500), 5, 6, "word")), []impl.NetMsg{msg(4, seg(end(50, 500), in, 5, 6, "word"))}, 3, 2},
		{msg(1, seg(end(4, 4), end(50, 500), 0, 0, "word")), []impl.NetMsg{msg(4, seg(end(50, 503), in, 0, 0, "word"))}, 4, 2},
		{msg(1, seg(end(3, 4), end(50, 500), 0, 0, "word")), []impl.NetMsg{msg(4, seg(end(50, 503), in, 0, 0, "word"))}, 4, 2},
		{msg(1, seg(in, end(50, 503), 0, 0, "word")), nil, 3, 2},
		{msg(1, seg(end(4, 4), end(50, 503), 0, 0, "word")), nil, 3, 2},
		{msg(1, seg(out, end(50, 500), 0, 0, "word")), nil, 3, 2},
		{msg(3, seg(out, end(50, 500), 3, 3, "port 50 501;")), []impl.NetMsg{msg(4, seg(out, in, 3, 3, "port 2 3;"))}, 3, 2},
		{msg(3, seg(out, end(50, 501), 3, 3, "port 50 501;")), []impl.NetMsg{msg(4, seg(out, end(2, 3), 3, 3, "port 50 501;"))}, 3, 2},
		{msg(3, seg(end(109, 7), end(50, 500), 0, 0, "word")), []impl.NetMsg{msg(4, seg(end(109, 7), in, 0, 0, "word"))}, 3, 2},
		{msg(3, seg(out, end(50, 503), 0, 0, "x")), nil, 3, 2},
		{msg(3, seg(out, end(50, 499), 0, 0, "x")), nil, 3, 2},
		{msg(3, seg(out, in, 0, 0, "x")), nil, 3, 2},
		{msg(3, seg(in, out, 14, 3, "e;")), nil, 3, 2},
		{msg(3, seg(in, end(50, 501), 0, 0, "word")), nil, 3, 2},
		{impl.NetMsg{To: 1}, nil, 3, 2},
		{impl.NetMsg{To: 2, Bytes: []byte{1, 2, 3}}, nil, 3, 2},
		{impl.NetMsg{To: 3, Bytes: make([]byte, 27)}, nil, 3, 2},
		{impl.NetMsg{To: 1, Bytes: wantBytes(seg(in, end(50, 501), 0, 0, "word"))[:18]}, nil, 3, 2},
		{impl.NetMsg{To: 1, Bytes: append(wantBytes(seg(in, end(50, 501), 0, 0, "word")), 0)}, nil, 3, 2},
	} {
		first := withNet(msg(4, seg(end(109, 7), end(2, 3), 0, 0, "a")), c.m, impl.NetMsg{To: 2, Bytes: []byte("junk")})
		w := checkStep(t, first, event(impl.EvHear, -7, 1, -7, -7))
		want := append([]impl.NetMsg{first.Net[0], first.Net[2]}, c.goes...)
		if !slices.EqualFunc(w.Net, want, sameMsg) || len(w.Box.Table.Ends) != c.ends || len(w.Box.Conns) != c.conns || !slices.Equal(w.Sides, first.Sides) || !slices.Equal(w.Told, first.Told) {
			t.Errorf("behind %v there is %v", c.m, w)
		}
	}
}

// What comes outside, and inside: from who has a port, to who is meant; how much is said to be there, and no more than there is; and words.
func TestWhatComesByHand(t *testing.T) {
	in, two, out := end(1, 7), end(2, 7), end(100, 21)
	first := busyWorld().Sides
	with := func(who int, turn func(s *impl.WldSide)) []impl.WldSide {
		sides := slices.Clone(first)
		turn(&sides[who])
		return sides
	}
	const got = "hi;port 50 501;"
	for _, c := range []struct {
		m     impl.NetMsg
		sides []impl.WldSide
		told  impl.EndPoint
	}{
		{msg(2, seg(end(50, 500), out, 15, 0, "bye;")), with(0, func(s *impl.WldSide) { s.Got = got + "bye;" }), impl.EndPoint{}},
		{msg(2, seg(end(50, 500), out, 12, 2, "01;bye;")), with(0, func(s *impl.WldSide) { s.Got, s.Heard = got+"bye;", 2 }), impl.EndPoint{}},
		{msg(2, seg(end(50, 500), out, 16, 1, "bye;")), first, impl.EndPoint{}},
		{msg(2, seg(end(50, 500), out, 3, 0, "port 50 501;")), first, impl.EndPoint{}},
		{msg(2, seg(end(50, 500), out, 240, 15, "")), with(0, func(s *impl.WldSide) { s.Heard = 15 }), impl.EndPoint{}},
		{msg(2, seg(end(50, 500), out, 0, 16, "")), with(0, func(s *impl.WldSide) { s.Heard = 15 }), impl.EndPoint{}},
		{msg(2, seg(end(50, 500), out, 0, 240, "")), with(0, func(s *impl.WldSide) { s.Heard = 15 }), impl.EndPoint{}},
		{msg(2, seg(end(50, 502), out, 0, 3, "x")), with(1, func(s *impl.WldSide) { s.Got, s.Heard = "x", 3 }), impl.EndPoint{}},
		{msg(2, seg(end(50, 501), out, 15, 3, "x")), first, impl.EndPoint{}},
		{msg(2, seg(end(50, 503), out, 15, 3, "x")), first, impl.EndPoint{}},
		{msg(2, seg(end(50, 500), end(101, 21), 15, 3, "x")), first, impl.EndPoint{}},
		{msg(2, seg(end(50, 500), end(100, 22), 15, 3, "x")), first, impl.EndPoint{}},
		{msg(2, seg(end(50, 500), in, 15, 3, "x")), first, impl.EndPoint{}},
		{msg(2, seg(in, out, 15, 3, "x")), first, impl.EndPoint{}},
		{msg(2, seg(end(1, 500), out, 15, 3, "x")), first, impl.EndPoint{}},
		{msg(2, seg(end(100, 500), out, 15, 3, "x")), first, impl.EndPoint{}},
		{msg(4, seg(out, in, 3, 12, "port 2 3;")), with(0, func(s *impl.WldSide) { s.Came, s.Acked = "ok;port 2 3;", 12 }), impl.EndPoint{}},
		{msg(4, seg(out, in, 2, 2, ";a")), with(0, func(s *impl.WldSide) { s.Came = "ok;a" }), impl.EndPoint{}},
		{msg(4, seg(out, in, 4, 3, "x")), first, impl.EndPoint{}},
		{msg(4, seg(out, in, 0, 17, "")), with(0, func(s *impl.WldSide) { s.Acked = 16 }), impl.EndPoint{}},
		{msg(4, seg(out, in, 0, 240, "no;")), with(0, func(s *impl.WldSide) { s.Acked = 16 }), impl.EndPoint{}},
		{msg(4, seg(out, two, 0, 1, "no;")), with(1, func(s *impl.WldSide) { s.Came, s.Acked = "no;", 1 }), impl.EndPoint{}},
		{msg(4, seg(out, end(2, 3), 0, 9, "x")), first, end(2, 3)},
		{msg(4, seg(out, end(9, 999), 0, 9, "x")), first, end(9, 999)},
		{msg(4, seg(out, end(2, 3), 0, 9, "")), first, impl.EndPoint{}},
		{msg(4, seg(end(109, 7), in, 3, 9, "word")), first, in},
		{msg(4, seg(end(109, 7), in, 3, 9, "")), first, impl.EndPoint{}},
		{msg(4, seg(end(50, 500), two, 0, 9, "word")), first, two},
		{msg(4, seg(end(50, 500), in, 3, 9, ";")), first, in},
		{msg(4, seg(end(100, 22), in, 3, 9, "x")), first, in},
		{msg(4, seg(end(101, 21), in, 3, 9, "x")), first, in},
		{msg(4, seg(end(109, 7), end(2, 3), 3, 9, "x")), first, end(2, 3)},
		{impl.NetMsg{To: 4, Bent: true, Bytes: wantBytes(seg(end(109, 7), end(2, 3), 3, 9, "x"))}, first, end(2, 3)},
	} {
		was := withNet(c.m)
		w := checkStep(t, was, event(impl.EvHear, 0, 0, 0, 0))
		told := was.Told
		if c.told != (impl.EndPoint{}) {
			told = append(slices.Clone(told), c.told)
		}
		if !slices.Equal(w.Sides, c.sides) || !slices.Equal(w.Told, told) || !sameBox(w.Box, was.Box) || len(w.Net) != 0 {
			t.Errorf("behind %v there is %v", c.m, w)
		}
	}
}

// What has come has no more than may be: a segment that would make it more adds nothing.
func TestNoMoreComesThanMayBe(t *testing.T) {
	long := strings.Repeat("ab;", 79)
	for _, c := range []struct {
		seq  int
		data string
		adds string
	}{
		{237, "x;y", "x;y"}, {237, "x;yz", ""}, {237, "abcdefghijkl", ""}, {238, "x", ""}, {228, "ab;ab;ab;x;y", "x;y"}, {229, "b;ab;ab;x;yz", ""}, {230, "aaaaaaa;b", ";b"}, {240, "", ""},
	} {
		w := withNet(msg(2, seg(end(50, 500), end(100, 21), c.seq, 0, c.data)), msg(4, seg(end(100, 21), end(1, 7), c.seq, 0, c.data)))
		w.Sides[0].Got, w.Sides[0].Came = long, long
		w = checkRun(t, w, event(impl.EvHear, 0, 0, 0, 0), event(impl.EvHear, 0, 0, 0, 0))
		if w.Sides[0].Got != long+c.adds || w.Sides[0].Came != long+c.adds {
			t.Errorf("with %q at %d comes %q and %q", c.data, c.seq, w.Sides[0].Got[230:], w.Sides[0].Came[230:])
		}
	}
}

// Promise 43 by hand: of one who may not send nothing comes, in either direction, though it gets a port by a word.
func TestWhoMayNotSendByHand(t *testing.T) {
	hear := event(impl.EvHear, 0, 0, 0, 0)
	first := impl.WldNew([]impl.RulRule{denySome()}, end(100, 21), twoSides())
	w := checkRun(t, first, event(impl.EvSend, 1, 0, 12, 0), hear)
	if !sameWorld(w, first) {
		t.Fatalf("what may not go leaves %v", w)
	}
	w = checkRun(t, w, event(impl.EvSend, 0, 0, 3, 0), hear, hear, event(impl.EvWord, 1, 500, 0, 0), hear, hear)
	if !slices.Equal(w.Told, []impl.EndPoint{end(1, 7)}) || !slices.Equal(w.Box.Table.Ends, []impl.EndPoint{end(1, 7), end(2, 7)}) {
		t.Fatalf("a word from who may not send leaves %v", w)
	}
	was := w
	w = checkRun(t, w, event(impl.EvReply, 1, 0, 12, 0), hear, event(impl.EvSend, 1, 0, 12, 0), hear)
	if !sameWorld(w, was) {
		t.Fatalf("what may not come back leaves %v", w)
	}
	w = impl.WldCalm(w, calmEnough)
	if w.Sides[1] != twoSides()[1] || w.Sides[0].Got != "hi;port 50 502;bye;" {
		t.Fatal(w.Sides)
	}
}

// To one who has a port by a word alone the box has no streams: so what is sent back goes in as it was sent, and stays so, though its lines are turned from then on when there are streams.
func TestWhatComesBackAheadOfTheStreams(t *testing.T) {
	hear := event(impl.EvHear, 0, 0, 0, 0)
	sides := []impl.WldSide{worldSide(end(1, 7), "hi;", ""), worldSide(end(2, 7), "a;", "port 50 501;port 50 500;")}
	w := checkRun(t, impl.WldNew(nil, end(100, 21), sides), event(impl.EvSend, 0, 0, 12, 0), hear, hear, event(impl.EvWord, 1, 500, 0, 0), hear, hear, event(impl.EvReply, 1, 0, 12, 0), hear, hear)
	if known, heard := impl.WldKnown(w, 1); w.Sides[1].Came != "port 50 501;" || known+heard != "" {
		t.Fatal(w)
	}
	w = checkRun(t, w, event(impl.EvSend, 1, 0, 12, 0), hear, hear, event(impl.EvReply, 1, 0, 12, 0), hear, hear)
	if _, heard := impl.WldKnown(w, 1); w.Sides[1].Came != "port 50 501;" || heard != "port 50 501;" || nearOf(w, 1) != "port 2 7;" {
		t.Fatal(w)
	}
}

// Bytes that are there and that are not, values that are none, and a message that is bent already.
func TestEvBendByHand(t *testing.T) {
	first := busyWorld()
	for at, m := range first.Net {
		for n := -2; n < 30; n++ {
			for _, v := range []int{math.MinInt, -256, -255, -1, 0, 1, 2, 128, 254, 255, 256, 257, 511, 512, 1<<32 + 1, math.MaxInt} {
				w := checkStep(t, first, event(impl.EvBend, -9, at, n, v))
				if n < 0 || n >= len(m.Bytes) || v < 1 || v > 255 || m.Bent {
					if !sameWorld(w, first) {
						t.Fatalf("byte %d of %v by %d is %v", n, m, v, w.Net[at])
					}
					continue
				}
				want := clonedWorld(first)
				want.Net[at].Bytes[n] = byte(int(m.Bytes[n]) ^ v)
				want.Net[at].Bent = true
				if !sameWorld(w, want) {
					t.Fatalf("byte %d of %v by %d is %v", n, m, v, w.Net[at])
				}
				if again := checkStep(t, w, event(impl.EvBend, 0, at, n, v)); !sameWorld(again, w) {
					t.Fatalf("bent once more %v is %v", m, again.Net[at])
				}
				// Promise 51: of it no more comes than of one that is lost.
				if !sameWorld(impl.WldStep(w, event(impl.EvHear, 0, at, 0, 0)), impl.WldStep(first, event(impl.EvLose, 0, at, 0, 0))) {
					t.Fatalf("%v, bent at %d by %d, is heard", m, n, v)
				}
			}
		}
	}
}

// A copy is bent as the first one is, and a message that is bent stays so.
func TestACopyOfWhatIsBent(t *testing.T) {
	w := checkRun(t, busyWorld(), event(impl.EvBend, 0, 0, 3, 9), event(impl.EvTwice, 0, 0, 0, 0), event(impl.EvBend, 0, 5, 3, 9), event(impl.EvTwice, 0, 3, 0, 0), event(impl.EvBend, 0, 3, 0, 1))
	if len(w.Net) != 7 || !w.Net[5].Bent || !sameMsg(w.Net[5], w.Net[0]) || w.Net[6].Bent || !w.Net[3].Bent || !sameMsg(w.Net[6], busyWorld().Net[3]) {
		t.Fatal(w.Net)
	}
}

// To hear, to lose, to have twice and to bend what is there, and what is not.
func TestMessagesThatAreNone(t *testing.T) {
	for _, first := range []impl.WldWorld{plainWorld(), busyWorld()} {
		for _, kind := range []int{impl.EvHear, impl.EvLose, impl.EvTwice, impl.EvBend} {
			for _, at := range []int{math.MinInt, -60, -1, len(first.Net), len(first.Net) + 1, 59, 60, 61, 1 << 32, math.MaxInt} {
				if got := checkStep(t, first, event(kind, 0, at, 1, 1)); !sameWorld(got, first) {
					t.Errorf("Kind %d of message %d leaves %v", kind, at, got)
				}
			}
			for at := range first.Net {
				// Who does it makes no difference here.
				if got := checkStep(t, first, event(kind, 99, at, 0, 1)); sameWorld(got, first) && !(kind == impl.EvBend && (at == 1 || at == 4)) {
					t.Errorf("Kind %d of message %d leaves all as it is", kind, at)
				}
			}
		}
	}
}

// Promises 52 and 75: with room for no more, for one, and for some. What comes of a message that is heard has the room of that one, and no more.
func TestRoomForMessages(t *testing.T) {
	in, out := end(1, 7), end(100, 21)
	for free := range 5 {
		first := withNet(slices.Repeat([]impl.NetMsg{msg(1, seg(in, out, 0, 0, ""))}, 60-free)...)
		for _, e := range []impl.EvEvent{event(impl.EvSend, 0, 0, 12, 0), event(impl.EvReply, 0, 0, 12, 0), event(impl.EvData, 0, 500, 0, 0), event(impl.EvWord, 0, 500, 0, 0), event(impl.EvTwice, 0, 59-free, 0, 0)} {
			w := checkStep(t, first, e)
			if len(w.Net) != min(60, 61-free) || free == 0 && !sameWorld(w, first) {
				t.Errorf("where there is room for %d, %v leaves %d messages", free, e, len(w.Net))
			}
		}
		// Two go of each that is heard.
		w := checkStep(t, first, event(impl.EvHear, 0, 0, 0, 0))
		if len(w.Net) != 59-free+min(2, free+1) || w.Net[59-free].To != impl.ToOut {
			t.Errorf("where there is room for %d, %d are on their way", free, len(w.Net))
		}
		if free > 0 {
			if w := checkRun(t, first, event(impl.EvTwice, 0, 7, 0, 0), event(impl.EvLose, 0, 60-free, 0, 0)); !sameWorld(w, first) {
				t.Errorf("a copy that is lost leaves %v", w)
			}
		}
	}
	// All that is on its way at most, heard from any place on: in order, again and again.
	first := withNet()
	for k := range 60 {
		first.Net = append(first.Net, msg(4, seg(end(109, 7), end(1+k%9, 1+k), 0, 0, "x")))
	}
	first.Told = nil
	for _, at := range []int{0, 1, 29, 58, 59} {
		w, order := first, slices.Clone(first.Net)
		var events []impl.EvEvent
		for k := range 200 {
			place := (at + 7*k) % 60
			events = append(events, event(impl.EvTwice, 0, place, 0, 0), event(impl.EvLose, 0, place, 0, 0), event(impl.EvTwice, 0, 58-place%59, 0, 0))
			order = slices.Delete(order, place, place+1)
			order = append(order, order[58-place%59])
			if len(events) == 399 || k == 199 {
				w, events = impl.WldRun(w, events), nil
				if !slices.EqualFunc(w.Net, order, sameMsg) {
					t.Fatalf("behind %d turns there are %v", k, w.Net)
				}
			}
		}
	}
}

// Promise 75: words are noted as long as there is room.
func TestRoomForWords(t *testing.T) {
	word := msg(4, seg(end(109, 7), end(9, 9), 0, 0, "word"))
	for many := 57; many <= 60; many++ {
		first := withNet(word, word, word, word)
		first.Told = slices.Repeat([]impl.EndPoint{end(2, 3)}, many)
		w := checkRun(t, first, slices.Repeat([]impl.EvEvent{event(impl.EvHear, 0, 0, 0, 0)}, 4)...)
		if len(w.Told) != min(60, many+4) || len(w.Net) != 0 || slices.Index(w.Told, end(9, 9)) != many && many < 60 {
			t.Errorf("behind %d words there are %v", many, w.Told)
		}
	}
}

// A segment that no box let go, to an end that is not inside: a word is told of it, and so the world is none any more; whatever happens next, it is nothing.
func TestAWordToWhoIsNotInside(t *testing.T) {
	for _, to := range []impl.EndPoint{end(100, 21), end(50, 500), end(109, 7)} {
		first := withNet(msg(4, seg(end(100, 7), to, 0, 0, "x")), msg(2, plainSeg("a")))
		w := checkStep(t, first, event(impl.EvHear, 0, 0, 0, 0))
		if !slices.Equal(w.Told, append(slices.Clone(first.Told), to)) || impl.WldOk(w) {
			t.Fatalf("behind it there is %v", w)
		}
		for _, e := range []impl.EvEvent{{}, event(impl.EvHear, 0, 0, 0, 0), event(impl.EvSend, 9, 0, 0, 0)} {
			if w := checkRun(t, first, event(impl.EvHear, 0, 0, 0, 0), e); !isNoWorld(w) {
				t.Errorf("behind %v there is %v", e, w)
			}
		}
		if w := impl.WldCalm(first, 1); !isNoWorld(w) {
			t.Errorf("in a calm there is %v", w)
		}
		if w := impl.WldCalm(first, 0); !sameWorld(w, first) {
			t.Errorf("in a calm of no rounds there is %v", w)
		}
	}
}

// Promise 48: no events, some, EvMaxRun, and one more.
func TestHowMuchHappensAtOnce(t *testing.T) {
	for k, w := range okWorlds() {
		for _, events := range [][]impl.EvEvent{nil, {}, {{}}} {
			if got := impl.WldRun(w, events); !sameWorld(got, w) {
				t.Fatalf("nothing happens to %v, but there is %v", w, got)
			}
		}
		if k > 20 {
			continue
		}
		r := rand.New(rand.NewSource(int64(k)))
		var events []impl.EvEvent
		worlds := []impl.WldWorld{w}
		for range impl.EvMaxRun {
			events = append(events, someEvent(r, worlds[len(worlds)-1], habitOf(k)))
			worlds = append(worlds, impl.WldStep(worlds[len(worlds)-1], events[len(events)-1]))
		}
		if len(events) != 400 {
			t.Fatal(len(events))
		}
		for _, many := range []int{1, 2, 61, 199, 399, 400} {
			if got := impl.WldRun(w, events[:many]); !sameWorld(got, worlds[many]) {
				t.Fatalf("%d events leave %v, one by one %v", many, got, worlds[many])
			}
			if got := impl.WldRun(worlds[many], events[many:]); !sameWorld(got, worlds[400]) {
				t.Fatalf("all behind the first %d leave %v, one by one %v", many, got, worlds[400])
			}
		}
		for _, many := range []int{1, 2, 400} {
			if got := impl.WldRun(w, append(slices.Clone(events), events[:many]...)); !isNoWorld(got) {
				t.Fatalf("%d events leave %v", 400+many, got)
			}
		}
		if got := impl.WldRun(w, make([]impl.EvEvent, 401)); !isNoWorld(got) {
			t.Fatalf("401 events of no Kind leave %v", got)
		}
	}
}

// Promise 49: none, some and CalmMax rounds, one more, and below 1; against rounds step by step.
func TestWldCalm(t *testing.T) {
	for k, w := range okWorlds() {
		for _, n := range []int{0, -1, -100, -1 << 32, math.MinInt} {
			if got := impl.WldCalm(w, n); !sameWorld(got, w) {
				t.Fatalf("%d rounds of %v leave %v", n, w, got)
			}
		}
		for _, n := range []int{101, 102, 200, 1 << 32, math.MaxInt} {
			if got := impl.WldCalm(w, n); !isNoWorld(got) {
				t.Fatalf("%d rounds of %v leave %v", n, w, got)
			}
		}
		want := w
		for n := 1; n < 4; n++ {
			want = wantRound(want)
			if got := impl.WldCalm(w, n); !sameWorld(got, want) {
				t.Fatalf("%d rounds of %v leave %v, not %v", n, w, got, want)
			}
		}
		if k < 4 {
			all := impl.WldCalm(w, 100)
			if some := impl.WldCalm(impl.WldCalm(w, 1), 99); impl.CalmMax != 100 || isNoWorld(all) || !sameWorld(some, all) {
				t.Fatalf("100 rounds of %v leave %v, not %v", w, all, some)
			}
		}
	}
}

// A calm by hand: in each round no more than two pieces of each stream go on, the second from where the box knew it to end ahead of the first.
func TestWldCalmByHand(t *testing.T) {
	sides := []impl.WldSide{worldSide(end(1, 7), "abcdefghijk;port 2 3;no", "lmnopqrstuv;port 50 501;end"), worldSide(end(2, 7), "", "")}
	first := impl.WldNew(nil, end(100, 21), sides)
	for n, c := range []impl.WldSide{
		{},
		{Acked: 12, Got: "abcdefghijk;", Came: "lmnopqrstuv;"},
		{Acked: 21, Got: "abcdefghijk;port 50 502;", Heard: 12, Came: "lmnopqrstuv;port 2 7;"},
		{Acked: 21, Got: "abcdefghijk;port 50 502;", Heard: 24, Came: "lmnopqrstuv;port 2 7;"},
	} {
		w := impl.WldCalm(first, n)
		c.In, c.Says, c.Backs = sides[0].In, sides[0].Says, sides[0].Backs
		if w.Sides[0] != c || w.Sides[1] != sides[1] || len(w.Net) != 0 || n > 0 && w.Box.Table.Ends[1] != end(2, 7) {
			t.Errorf("behind %d rounds there is %v", n, w)
		}
	}
}

// Each of the four pieces of a round is as long as may be: where the box knows another beginning of a stream, so that the second piece makes no stream and adds nothing, what the first one added is all.
func TestPiecesOfACalmRound(t *testing.T) {
	const stream = "b;b;;cccccccccccc"
	w := busyWorld()
	w.Net = nil
	w.Box.Conns[0] = conn(end(1, 7), end(100, 21), "aaaaa", "eeeee", "")
	w.Sides[0] = worldSide(end(1, 7), stream, stream)
	w = impl.WldCalm(w, 1)
	if known, heard := impl.WldKnown(w, 0); known != "aaaaaccccccc" || heard != "eeeeeccccccc" {
		t.Fatalf("known are %q and %q", known, heard)
	}
}

// Of one inside who has streams, of one who has none, of a place that is none.
func TestWldKnown(t *testing.T) {
	type said struct{ known, heard string }
	check := func(w impl.WldWorld, want ...said) {
		t.Helper()
		for _, who := range []int{math.MinInt, -1 << 32, -2, -1, 0, 1, 2, 3, 21, 1 << 32, math.MaxInt} {
			var c said
			if who >= 0 && who < len(want) {
				c = want[who]
			}
			if known, heard := impl.WldKnown(w, who); (said{known, heard}) != c {
				t.Errorf("of %d of %v are known %q and %q", who, w, known, heard)
			}
		}
	}
	check(plainWorld(), said{}, said{})
	check(busyWorld(), said{"hi;port 2 3;by", "ok;"}, said{})
	w := busyWorld()
	w.Box.Conns[0], w.Box.Conns[1] = w.Box.Conns[1], w.Box.Conns[0]
	check(w, said{"hi;port 2 3;by", "ok;"}, said{})
	w.Sides[0], w.Sides[1] = w.Sides[1], w.Sides[0]
	check(w, said{}, said{"hi;port 2 3;by", "ok;"})
	w.Out = end(101, 21)
	check(w, said{}, said{})
	w.Box.Conns = append(w.Box.Conns, conn(end(2, 7), end(101, 21), "x;", "y", ""))
	check(w, said{"x;", "y"}, said{})
	w.Sides = w.Sides[:1]
	check(w)
	for _, x := range allWalks() {
		for _, w := range x.worlds {
			for who, side := range w.Sides {
				var want said
				if k := connOf(w.Box, side.In, w.Out); k >= 0 {
					want = said{w.Box.Conns[k].Known, w.Box.Conns[k].Heard}
				}
				if known, heard := impl.WldKnown(w, who); (said{known, heard}) != want {
					t.Fatalf("of %d of %v are known %q and %q", who, w, known, heard)
				}
			}
		}
	}
}

// The document's example, up to the board.
func TestTheDocumentsExample(t *testing.T) {
	deny, ok := impl.RulRead("deny 2 2 100 100 1 999")
	if !ok {
		t.Fatal(deny)
	}
	w := impl.WldNew([]impl.RulRule{deny}, end(100, 21), []impl.WldSide{worldSide(end(1, 7), "hi;port 2 3;bye;", "ok;port 50 501;"), worldSide(end(2, 7), "port 2 3;", "no;")})
	hear := event(impl.EvHear, 0, 0, 0, 0)
	w = checkRun(t, w,
		event(impl.EvSend, 0, 0, 8, 0), hear, hear, event(impl.EvSend, 0, 8, 12, 0), event(impl.EvTwice, 0, 0, 0, 0), event(impl.EvBend, 0, 0, 16, 3), hear, hear, hear,
		event(impl.EvReply, 0, 0, 12, 0), hear, hear, event(impl.EvReply, 0, 12, 12, 0), hear, hear,
		event(impl.EvData, 0, 501, 0, 0), hear, hear, hear, event(impl.EvSend, 1, 0, 12, 0), hear)
	one := impl.WldSide{In: end(1, 7), Says: "hi;port 2 3;bye;", Acked: 16, Got: "hi;port 50 501;bye;", Backs: "ok;port 50 501;", Came: "ok;port 2 3;"}
	if !slices.Equal(w.Sides, []impl.WldSide{one, worldSide(end(2, 7), "port 2 3;", "no;")}) || len(w.Net) != 0 || !slices.Equal(w.Told, []impl.EndPoint{end(2, 3)}) || !slices.Equal(w.Box.Table.Ends, []impl.EndPoint{end(1, 7), end(2, 3)}) {
		t.Fatal(w)
	}
}

// roomyWorld is a world whose lists have room behind their ends, full of what stands nowhere else; and a way to ask whether all of that is as it was.
func roomyWorld(w impl.WldWorld) (impl.WldWorld, func() bool) {
	b, rules, ends, conns := roomyBox(w.Box)
	w = clonedWorld(w)
	sides := append(slices.Clone(w.Sides), worldSide(end(8, 801), "a", "b"), worldSide(end(8, 802), "c", "d"))
	var net []impl.NetMsg
	var roomy [][]byte
	for _, m := range append(slices.Clone(w.Net), impl.NetMsg{To: 7, Bytes: []byte("far")}, impl.NetMsg{To: 8}) {
		roomy = append(roomy, append(slices.Clone(m.Bytes), "behind"...))
		net = append(net, impl.NetMsg{To: m.To, Bent: m.Bent, Bytes: roomy[len(roomy)-1][:len(m.Bytes)]})
	}
	told := append(slices.Clone(w.Told), end(8, 801), end(8, 802))
	mine := impl.WldWorld{Box: b, Out: w.Out, Sides: sides[:len(w.Sides)], Net: net[:len(w.Net)], Told: told[:len(w.Told)]}
	all := func() string { return fmt.Sprint(rules, ends, conns, sides, net, roomy, told) }
	was := all()
	return mine, func() bool { return all() == was }
}

// turnWorld writes over all lists of a world, over what room there is behind them, and over all bytes.
func turnWorld(w impl.WldWorld) {
	turnBox(w.Box)
	sides, net := w.Sides[:cap(w.Sides)], w.Net[:cap(w.Net)]
	for k := range sides {
		sides[k] = impl.WldSide{In: end(-7, -7), Says: "x", Acked: -7, Got: "y"}
	}
	for k := range net {
		turnBytes(net[k].Bytes)
		net[k] = impl.NetMsg{To: -7}
	}
	overwrite(w.Told)
}

// worldAnswers is all worlds that chapter 8 answers of a world and an event.
func worldAnswers(w impl.WldWorld, e impl.EvEvent) []impl.WldWorld {
	impl.WldOk(w)
	impl.WldKnown(w, 0)
	return []impl.WldWorld{impl.WldStep(w, e), impl.WldRun(w, []impl.EvEvent{e, {Kind: impl.EvHear}, e}), impl.WldRun(w, nil), impl.WldCalm(w, 1), impl.WldCalm(w, 0), impl.WldNew(w.Box.Rules, w.Out, w.Sides)}
}

// No list of an argument is turned, nor what is behind its end; to write to an answer turns neither the argument, nor another answer, nor what is answered later; and to write to the argument turns no answer.
func TestWorldsShareNoMemory(t *testing.T) {
	events := []impl.EvEvent{
		{}, event(impl.EvSend, 0, 0, 12, 0), event(impl.EvReply, 1, 0, 12, 0), event(impl.EvHear, 0, 0, 0, 0), event(impl.EvHear, 0, 2, 0, 0), event(impl.EvLose, 0, 1, 0, 0), event(impl.EvTwice, 0, 0, 0, 0),
		event(impl.EvBend, 0, 0, 3, 7), event(impl.EvBend, 0, 3, 0, 255), event(impl.EvData, 0, 501, 0, 0), event(impl.EvWord, 1, 500, 0, 0), event(impl.EvHear, 0, 99, 0, 0),
	}
	for k, w := range append(okWorlds()[:30], badWorlds()[:60]...) {
		for i, e := range events {
			if k > 5 && i != k%len(events) {
				continue
			}
			mine, same := roomyWorld(w)
			want := worldAnswers(w, e)
			got := worldAnswers(mine, e)
			if !same() || !slices.EqualFunc(got, want, sameWorld) {
				t.Fatalf("%v turned %v, or leaves %v, not %v", e, mine, got, want)
			}
			for at := range got {
				turnWorld(got[at])
				if !same() || !slices.EqualFunc(got[at+1:], want[at+1:], sameWorld) {
					t.Fatalf("to write to what is behind %v turned others", e)
				}
			}
			later := worldAnswers(mine, e)
			turnWorld(mine)
			if !slices.EqualFunc(later, want, sameWorld) {
				t.Fatalf("%v once more leaves %v, not %v", e, later, want)
			}
		}
	}
}

// No two messages of one answer share their bytes, neither a copy and what it is one of, nor with room behind them.
func TestMessagesShareNoBytes(t *testing.T) {
	for _, w := range []impl.WldWorld{impl.WldRun(busyWorld(), []impl.EvEvent{event(impl.EvTwice, 0, 0, 0, 0), event(impl.EvTwice, 0, 3, 0, 0), event(impl.EvTwice, 0, 5, 0, 0)}), impl.WldStep(busyWorld(), event(impl.EvTwice, 0, 2, 0, 0)), impl.WldCalm(busyWorld(), 0)} {
		for k, m := range w.Net {
			was := clonedWorld(w)
			turnBytes(m.Bytes)
			for i := range w.Net {
				if i != k && !sameMsg(w.Net[i], was.Net[i]) {
					t.Fatalf("to write to message %d turned %d", k, i)
				}
			}
		}
	}
	// The events, too, stay as they are, with what is behind them.
	events := []impl.EvEvent{event(impl.EvTwice, 0, 0, 0, 0), event(impl.EvHear, 0, 0, 0, 0), event(-7, -7, -7, -7, -7)}
	was := slices.Clone(events)
	impl.WldRun(busyWorld(), events[:2])
	if !slices.Equal(events, was) {
		t.Fatal(events)
	}
}

// Calls at the same time, of one world, answer as one by itself; and none leaves a goroutine behind.
func TestWorldsAtTheSameTime(t *testing.T) {
	before := runtime.NumGoroutine()
	w := busyWorld()
	want := impl.WldCalm(w, 3)
	var wait sync.WaitGroup
	for range 8 {
		wait.Go(func() {
			for range 20 {
				if got := impl.WldCalm(w, 3); !sameWorld(got, want) {
					t.Errorf("3 rounds leave %v, not %v", got, want)
				}
			}
		})
	}
	wait.Wait()
	for tries := 0; runtime.NumGoroutine() > before; tries++ {
		if tries == 500 {
			t.Fatalf("there were %d goroutines, and now there are %d", before, runtime.NumGoroutine())
		}
		time.Sleep(time.Millisecond)
	}
}
