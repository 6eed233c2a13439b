package tests

import (
	"math/rand"
	"slices"
	"strings"
	"sync"
	"testing"

	"loop.example/hatchway/impl"
)

// calmEnough is how many rounds it takes, at most, until all has come.
const calmEnough = 24

// walk is a world from WldNew on, and what happens to it: behind events[k] worlds[k] is worlds[k+1].
type walk struct {
	worlds []impl.WldWorld
	events []impl.EvEvent
	// early says, of each world and each one inside, whether bytes of what is sent back went in ahead of the box's having its streams, and so as they were sent. What is put together of these and of lines that were turned is neither: promises 11 to 13 can't hold of it, unless no line is turned.
	early [][2]bool
}

// allWalks is many walks, told once for all tests.
var allWalks = sync.OnceValue(func() []walk {
	r := rand.New(rand.NewSource(8))
	var list []walk
	for k := range 250 {
		list = append(list, someWalk(r, habitOf(k), 140))
	}
	return list
})

// calmWalks is the worlds at the end of these, and in their midst, behind enough rounds; as a walk of no events each.
var calmWalks = sync.OnceValue(func() []walk {
	var list []walk
	for _, k := range allWalks() {
		for _, at := range []int{len(k.worlds) / 3, len(k.worlds) - 1} {
			calm := impl.WldCalm(k.worlds[at], calmEnough)
			// What comes early in a calm was on its way ahead of it.
			heard := walk{worlds: slices.Clip(k.worlds[at : at+1]), early: slices.Clip(k.early[at : at+1])}
			for len(heard.last().Net) > 0 {
				heard = heard.further(impl.EvEvent{Kind: impl.EvHear})
			}
			list = append(list, walk{worlds: []impl.WldWorld{calm}, early: heard.early[len(heard.early)-1:]})
		}
	}
	return list
})

// habitOf is how often what happens in the k-th walk, by Kind; Kind 0 is for what can't happen.
func habitOf(k int) [9]int {
	return [][9]int{
		{1, 6, 4, 16, 2, 2, 2, 1, 1},
		{1, 6, 4, 10, 1, 0, 0, 0, 0},
		{1, 8, 6, 20, 0, 2, 0, 1, 0},
		{0, 6, 4, 3, 0, 6, 1, 1, 1},
		{1, 2, 6, 14, 1, 2, 1, 0, 4},
		{0, 1, 8, 16, 0, 1, 0, 0, 6},
	}[k%6]
}

// worldSide is one inside, with what it sends and what is sent back.
func worldSide(in impl.EndPoint, says, backs string) impl.WldSide {
	return impl.WldSide{In: in, Says: says, Backs: backs}
}

// plainStream is a stream that names nobody.
func plainStream(r *rand.Rand) string {
	s := ""
	for range r.Intn(20) {
		s += []string{"hi;", ";", "port 50 501;", "port 100 21;", "none;", "abc def 019;", "a;b", "7"}[r.Intn(8)]
	}
	return s[:min(len(s), impl.StrMax)]
}

// crowdStream is a stream that names more ends than there are ports for.
func crowdStream(r *rand.Rand) string {
	s := ""
	for range 4 + r.Intn(9) {
		s += impl.LinPort(end(1+r.Intn(9), 1+r.Intn(9))) + ";"
	}
	return s
}

// someSays is a stream of one of these kinds.
func someSays(r *rand.Rand) string {
	switch r.Intn(5) {
	case 0:
		return plainStream(r)
	case 1:
		return crowdStream(r)
	}
	return someStream(r)
}

// firstWorld is some world from WldNew.
func firstWorld(r *rand.Rand) impl.WldWorld {
	rules := [][]impl.RulRule{nil, nil, nil, {denySome()}, {rule(false, 1, 1, 100, 104, 1, 21), allowAll()}, {rule(false, 1, 9, 109, 109, 7, 7)}, {rule(true, 1, 1, 100, 109, 1, 999), denyAll()}}
	outs := []impl.EndPoint{end(100, 21), end(100, 21), end(104, 21), end(109, 21)}
	ins := []impl.EndPoint{end(1, 7), end(2, 7), end(2, 3), end(9, 999), end(1, 500)}
	r.Shuffle(len(ins), func(i, k int) { ins[i], ins[k] = ins[k], ins[i] })
	return impl.WldNew(rules[r.Intn(len(rules))], outs[r.Intn(len(outs))], []impl.WldSide{
		worldSide(ins[0], someSays(r), []string{someBacks(r), plainStream(r)}[r.Intn(2)]),
		worldSide(ins[1], someSays(r), someBacks(r)),
	})
}

// nearby is mostly a place, or else one a little ahead of it or behind, or anywhere.
func nearby(r *rand.Rand, at int) int {
	switch r.Intn(8) {
	case 0:
		return at + r.Intn(5) - 2
	case 1:
		return r.Intn(at + 1)
	case 2:
		return r.Intn(130) - 5
	}
	return at
}

// oneOf is a Kind, each as often as a habit says.
func oneOf(r *rand.Rand, habit [9]int) int {
	all := 0
	for _, many := range habit {
		all += many
	}
	at := r.Intn(all)
	for kind, many := range habit {
		if at < many {
			return kind
		}
		at -= many
	}
	return 0
}

// someEvent is something that happens to a world; now and then something that can't.
func someEvent(r *rand.Rand, w impl.WldWorld, habit [9]int) impl.EvEvent {
	kind, who := oneOf(r, habit), r.Intn(2)
	if r.Intn(40) == 0 {
		who = r.Intn(6) - 2
	}
	e := impl.EvEvent{Kind: kind, Who: who, N: r.Intn(13)}
	if r.Intn(2) == 0 {
		e.N = 12
	}
	known, heard := impl.WldKnown(w, who)
	switch kind {
	case 0:
		return impl.EvEvent{Kind: r.Intn(40) - 20, Who: r.Intn(5) - 1, At: r.Intn(100) - 1, N: r.Intn(20) - 3, V: r.Intn(300) - 20}
	case impl.EvSend:
		e.At = nearby(r, len(known))
	case impl.EvReply:
		e.At = nearby(r, len(heard))
	case impl.EvData, impl.EvWord:
		e.At = 498 + r.Intn(10)
	case impl.EvBend:
		e.At, e.N, e.V = r.Intn(len(w.Net)+1), r.Intn(28), 1+r.Intn(255)
	default:
		e.At = r.Intn(len(w.Net)+1) * r.Intn(2)
	}
	return e
}

// comesEarly is whom inside an event brings bytes of what is sent back, while the box has no streams of that one; -1, if nobody.
func comesEarly(w impl.WldWorld, e impl.EvEvent) int {
	s, to := heardSeg(w, e)
	for k, side := range w.Sides {
		port := slices.Index(w.Box.Table.Ends, side.In) + 500
		if to == impl.ToBoxIn && s.Src == w.Out && s.Dst == end(50, port) && s.Data != "" && connOf(w.Box, side.In, w.Out) < 0 && wantMay(w.Box.Rules, side.In, w.Out) {
			return k
		}
	}
	return -1
}

// heardSeg is the segment that an event has come, and where to; 0, if it has none come.
func heardSeg(w impl.WldWorld, e impl.EvEvent) (impl.SegSeg, int) {
	if e.Kind != impl.EvHear || e.At < 0 || e.At >= len(w.Net) {
		return impl.SegSeg{}, 0
	}
	s, ok := wantSeg(w.Net[e.At].Bytes)
	if !ok {
		return s, 0
	}
	return s, w.Net[e.At].To
}

// someWalk is some world, and so many things that happen to it.
func someWalk(r *rand.Rand, habit [9]int, steps int) walk {
	k := walk{worlds: []impl.WldWorld{firstWorld(r)}, early: make([][2]bool, 1)}
	for range steps {
		k = k.further(someEvent(r, k.last(), habit))
	}
	return k
}

func (k walk) last() impl.WldWorld {
	return k.worlds[len(k.worlds)-1]
}

// further is a walk, and one thing more that happens.
func (k walk) further(e impl.EvEvent) walk {
	early := k.early[len(k.early)-1]
	if who := comesEarly(k.last(), e); who >= 0 {
		early[who] = true
	}
	return walk{worlds: append(k.worlds, impl.WldStep(k.last(), e)), events: append(k.events, e), early: append(k.early, early)}
}

// eachWorld hands on each world of each walk, also behind calm rounds, and what comes early in it.
func eachWorld(check func(w impl.WldWorld, early [2]bool)) {
	for _, k := range slices.Concat(allWalks(), calmWalks()) {
		for at, w := range k.worlds {
			check(w, k.early[at])
		}
	}
}

// eachEvent hands on each thing that happens, and the world ahead of it, and behind it.
func eachEvent(check func(was impl.WldWorld, e impl.EvEvent, now impl.WldWorld)) {
	for _, k := range allWalks() {
		for at, e := range k.events {
			check(k.worlds[at], e, k.worlds[at+1])
		}
	}
}

// farOf is a stream as it goes outside by the ports that ends have.
func farOf(w impl.WldWorld, s string) string {
	_, far := wantStream(allNames(), w.Box.Table, s)
	return far
}

// wholeOf is the lines of a text that have come to their end.
func wholeOf(s string) string {
	return s[:strings.LastIndex(s, ";")+1]
}

// nearOf is what of the stream that is sent back to one inside has gone in.
func nearOf(w impl.WldWorld, who int) string {
	if k := connOf(w.Box, w.Sides[who].In, w.Out); k >= 0 {
		return w.Box.Conns[k].Near
	}
	return ""
}

// turnsNone says whether no line of a stream could be turned as it goes inside.
func turnsNone(s string) bool {
	lines, _ := linesByBytes(s)
	return !slices.ContainsFunc(lines, func(line string) bool { return allNames()[line].Addr == 50 })
}

// The walks come to all that may happen.
func TestWalksAreFarEnough(t *testing.T) {
	var came, back, full, told, ports, early, none, bent, denied int
	eachWorld(func(w impl.WldWorld, soon [2]bool) {
		for k, side := range w.Sides {
			if len(side.Got) > 30 && side.Acked > 30 {
				came++
			}
			if len(side.Came) > 30 && side.Heard > 20 {
				back++
			}
			if strings.Contains(side.Got, "none;") {
				none++
			}
			if soon[k] {
				early++
			}
			if !wantMay(w.Box.Rules, side.In, w.Out) {
				denied++
			}
		}
		if len(w.Net) == impl.NetMax {
			full++
		}
		if len(w.Told) > 0 {
			told++
		}
		if len(w.Box.Table.Ends) == impl.MapMost {
			ports++
		}
		if slices.ContainsFunc(w.Net, func(m impl.NetMsg) bool { return m.Bent }) {
			bent++
		}
	})
	if min(came, back, full, told, ports, early, none, bent, denied) < 200 {
		t.Fatal(came, back, full, told, ports, early, none, bent, denied)
	}
}

// Promise 10.
func TestWhatComesOutsideIsWhatTheStreamIsThere(t *testing.T) {
	eachWorld(func(w impl.WldWorld, _ [2]bool) {
		for k, side := range w.Sides {
			if !strings.HasPrefix(farOf(w, side.Says), side.Got) {
				t.Fatalf("of %q has come %q, by %v", side.Says, side.Got, w.Box.Table)
			}
			known, _ := impl.WldKnown(w, k)
			if !strings.HasPrefix(side.Says, known) || !strings.HasPrefix(farOf(w, known), side.Got) {
				t.Fatalf("of %q has come %q, but known is %q", side.Says, side.Got, known)
			}
		}
	})
}

// Promise 11; that it never turns, promise 44 asks.
func TestWhatComesBackIsWhatWasSentBack(t *testing.T) {
	turned := 0
	eachWorld(func(w impl.WldWorld, early [2]bool) {
		for k, side := range w.Sides {
			if early[k] && !turnsNone(side.Backs) {
				continue
			}
			sent, _ := linesByBytes(side.Backs)
			came, _ := linesByBytes(side.Came)
			for i, line := range came {
				if i >= len(sent) || line != sent[i] && (line == "" || line != wantBack(allNames(), w.Box.Table, sent[i])) {
					t.Fatalf("of %q has come %q, by %v", side.Backs, side.Came, w.Box.Table)
				}
				if line != sent[i] {
					turned++
				}
			}
		}
	})
	if turned < 1000 {
		t.Fatal(turned)
	}
}

// Promise 12.
func TestInACalmAllComes(t *testing.T) {
	all := 0
	for _, k := range calmWalks() {
		w := k.last()
		for who, side := range w.Sides {
			if !wantMay(w.Box.Rules, side.In, w.Out) || !slices.Contains(w.Box.Table.Ends, side.In) {
				continue
			}
			all += len(side.Got)
			if side.Got != farOf(w, side.Says) || side.Acked < len(wholeOf(side.Says)) {
				t.Fatalf("of %q comes %q, and it is said that %d are there", side.Says, side.Got, side.Acked)
			}
			if k.early[0][who] && !turnsNone(side.Backs) {
				continue
			}
			all += len(side.Came)
			lines, _ := linesByBytes(side.Backs)
			if strings.Count(side.Came, ";") != len(lines) || wholeOf(side.Came) != nearOf(w, who) || side.Heard < len(wholeOf(side.Backs)) {
				t.Fatalf("of %q comes %q, and it is said that %d are there", side.Backs, side.Came, side.Heard)
			}
		}
	}
	if all < 10000 {
		t.Fatal(all)
	}
}

// Promise 13.
func TestWhatIsSaidToBeThereHasCome(t *testing.T) {
	parts := 0
	eachWorld(func(w impl.WldWorld, early [2]bool) {
		for k, side := range w.Sides {
			if !strings.HasPrefix(side.Got, farOf(w, side.Says[:side.Acked])) {
				t.Fatalf("%d of %q are said to be there, but %q is", side.Acked, side.Says, side.Got)
			}
			if side.Acked > len(wholeOf(side.Says[:side.Acked])) {
				parts++
			}
			if early[k] && !turnsNone(side.Backs) {
				continue
			}
			lines := strings.Count(side.Backs[:side.Heard], ";")
			if strings.Count(side.Came, ";") < lines || firstLines(side.Came, lines) != firstLines(nearOf(w, k), lines) && !early[k] {
				t.Fatalf("%d of %q are said to be there, but %q is", side.Heard, side.Backs, side.Came)
			}
		}
	})
	if parts == 0 {
		t.Fatal("never a part of a line")
	}
}

// Promises 14 and 77.
func TestNothingOutsideTellsOfInside(t *testing.T) {
	on := 0
	eachWorld(func(w impl.WldWorld, _ [2]bool) {
		one, two := impl.MapPort(w.Box.Table, w.Sides[0].In), impl.MapPort(w.Box.Table, w.Sides[1].In)
		if one != 0 && one == two {
			t.Fatalf("both have %d in %v", one, w.Box.Table)
		}
		for _, m := range w.Net {
			if m.To != impl.ToOut || m.Bent {
				continue
			}
			on++
			s, ok := impl.SegRead(m.Bytes)
			if !ok || s.Src.Addr != 50 || s.Src.Port != one && s.Src.Port != two || s.Dst != w.Out {
				t.Fatalf("on its way outside is %v, %v", s, ok)
			}
		}
		for _, side := range w.Sides {
			lines, _ := impl.StrLines(side.Got)
			for _, line := range lines {
				if wantSide(allNames()[line].Addr) == inside {
					t.Fatalf("%q has come outside", side.Got)
				}
			}
		}
	})
	if on < 1000 {
		t.Fatal(on)
	}
}

// Promise 43.
func TestWhoMayNotSendHasNothing(t *testing.T) {
	eachWorld(func(w impl.WldWorld, _ [2]bool) {
		for k, side := range w.Sides {
			known, heard := impl.WldKnown(w, k)
			if !wantMay(w.Box.Rules, side.In, w.Out) && (side != worldSide(side.In, side.Says, side.Backs) || known+heard != "") {
				t.Fatalf("of one who may not send the world has %v", side)
			}
		}
	})
}

// Promise 44, of the worlds of a walk, and of the calm ones behind them.
func TestWhatHasComeStays(t *testing.T) {
	eachEvent(func(was impl.WldWorld, _ impl.EvEvent, now impl.WldWorld) { checkGrows(t, was, now) })
	for k, x := range allWalks() {
		checkGrows(t, x.worlds[len(x.worlds)/3], calmWalks()[2*k].last())
		checkGrows(t, x.last(), calmWalks()[2*k+1].last())
	}
}

// checkGrows asks that all that was in a world is there, or more of it.
func checkGrows(t *testing.T, was, now impl.WldWorld) {
	t.Helper()
	checkKnows(t, now.Box, was.Box)
	if now.Out != was.Out || len(now.Sides) != 2 || len(now.Told) < len(was.Told) || !slices.Equal(now.Told[:len(was.Told)], was.Told) {
		t.Fatalf("%v became %v", was, now)
	}
	for k, a := range was.Sides {
		b := now.Sides[k]
		if a.In != b.In || a.Says != b.Says || a.Backs != b.Backs {
			t.Fatalf("%v became %v", a, b)
		}
		if a.Acked > b.Acked || a.Heard > b.Heard || !strings.HasPrefix(b.Got, a.Got) || !strings.HasPrefix(b.Came, a.Came) {
			t.Fatalf("%v became %v", a, b)
		}
		known, heard := impl.WldKnown(was, k)
		more, back := impl.WldKnown(now, k)
		if !strings.HasPrefix(more, known) || !strings.HasPrefix(back, heard) {
			t.Fatalf("known were %q and %q, and then %q and %q", known, heard, more, back)
		}
	}
}

// Promise 45.
func TestAWordComesToWhoHasThePort(t *testing.T) {
	eachWorld(func(w impl.WldWorld, _ [2]bool) {
		for _, e := range w.Told {
			if !slices.Contains(w.Box.Table.Ends, e) {
				t.Fatalf("a word has come to %v, by %v", e, w.Box.Table)
			}
		}
	})
}

// isAboutSide says whether an event is a step by one inside, or of what is sent back to it.
func isAboutSide(w impl.WldWorld, e impl.EvEvent, who int) bool {
	in := w.Sides[who].In
	port := end(50, impl.MapPort(w.Box.Table, in))
	s, to := heardSeg(w, e)
	switch to {
	case impl.ToBoxOut:
		return s.Src == in
	case impl.ToOut:
		return s.Src == port
	case impl.ToBoxIn:
		return s.Src == w.Out && s.Dst == port
	case impl.ToIn:
		return s.Src == w.Out && s.Dst == in
	}
	return false
}

// Promise 46.
func TestOneInsideMakesNoDifferenceToTheOther(t *testing.T) {
	eachEvent(func(was impl.WldWorld, e impl.EvEvent, now impl.WldWorld) {
		for who, a := range was.Sides {
			if isAboutSide(was, e, who) {
				continue
			}
			known, heard := impl.WldKnown(was, who)
			more, back := impl.WldKnown(now, who)
			if now.Sides[who] != a || known != more || heard != back || farOf(was, known) != farOf(now, more) || nearOf(was, who) != nearOf(now, who) {
				t.Fatalf("behind %v, which is not its, %v is %v", e, a, now.Sides[who])
			}
		}
	})
}

// Promises 47 and 75.
func TestAWorldStaysAWorld(t *testing.T) {
	eachWorld(func(w impl.WldWorld, _ [2]bool) {
		if !impl.WldOk(w) || !wantWldOk(w) {
			t.Fatalf("%v is not ok", w)
		}
		if len(w.Net) > 60 || len(w.Told) > 60 || slices.ContainsFunc(w.Net, func(m impl.NetMsg) bool { return len(m.Bytes) > 27 }) {
			t.Fatalf("%v has more than may be", w)
		}
	})
}

// Promise 72.
func TestWhoLosesAMessageLosesThatAlone(t *testing.T) {
	lost := 0
	eachEvent(func(was impl.WldWorld, e impl.EvEvent, now impl.WldWorld) {
		if e.Kind != impl.EvLose && e.Kind != impl.EvTwice && e.Kind != impl.EvBend {
			return
		}
		lost++
		if !sameBox(was.Box, now.Box) || !slices.Equal(was.Sides, now.Sides) || !slices.Equal(was.Told, now.Told) {
			t.Fatalf("%v of %v leaves %v", e, was, now)
		}
	})
	if lost < 500 {
		t.Fatal(lost)
	}
}

// Promise 93, of each world and of any message.
func TestAMessageIsHeardOnce(t *testing.T) {
	heard, made := 0, 0
	eachEvent(func(w impl.WldWorld, e impl.EvEvent, _ impl.WldWorld) {
		for _, at := range []int{0, len(w.Net) / 2, len(w.Net) - 1} {
			if at < 0 || at >= len(w.Net) {
				continue
			}
			heard++
			now := impl.WldStep(w, impl.EvEvent{Kind: impl.EvHear, At: at})
			rest := slices.Concat(w.Net[:at], w.Net[at+1:])
			if len(now.Net) < len(rest) || !slices.EqualFunc(now.Net[:len(rest)], rest, sameMsg) {
				t.Fatalf("behind the message %d of %v there is %v", at, w.Net, now.Net)
			}
			made += len(now.Net) - len(rest)
		}
	})
	if heard < 1000 || made < 1000 {
		t.Fatal(heard, made)
	}
}

// Promises 51 and 52, of each world and of any message.
func TestWhatIsBentIsLostAndACopyIsNothing(t *testing.T) {
	r := rand.New(rand.NewSource(51))
	bent, twice := 0, 0
	eachEvent(func(w impl.WldWorld, _ impl.EvEvent, _ impl.WldWorld) {
		if len(w.Net) == 0 {
			return
		}
		at := r.Intn(len(w.Net))
		lost := impl.WldStep(w, impl.EvEvent{Kind: impl.EvLose, At: at})
		bend := impl.EvEvent{Kind: impl.EvBend, At: at, N: r.Intn(len(w.Net[at].Bytes)), V: 1 + r.Intn(255)}
		if got := impl.WldRun(w, []impl.EvEvent{bend, {Kind: impl.EvHear, At: at}}); !sameWorld(got, lost) {
			t.Fatalf("%v of %v, and heard, leaves %v", bend, w, got)
		}
		bent++
		if len(w.Net) < impl.NetMax {
			twice++
			if got := impl.WldRun(w, []impl.EvEvent{{Kind: impl.EvTwice, At: at}, {Kind: impl.EvLose, At: len(w.Net)}}); !sameWorld(got, w) {
				t.Fatalf("a copy of %d of %v, and lost, leaves %v", at, w, got)
			}
		}
	})
	if bent < 1000 || twice < 1000 {
		t.Fatal(bent, twice)
	}
}

// Promise 92, of each world.
func TestWhatCannotBeSentIsNot(t *testing.T) {
	eachEvent(func(w impl.WldWorld, e impl.EvEvent, _ impl.WldWorld) {
		for _, bad := range []impl.EvEvent{
			{Kind: impl.EvSend, At: len(w.Sides[0].Says) + 1, N: 1}, {Kind: impl.EvReply, Who: 1, At: len(w.Sides[1].Backs) + 1}, {Kind: impl.EvSend, At: -1, N: 12}, {Kind: impl.EvReply, At: -1},
			{Kind: impl.EvSend, N: 13}, {Kind: impl.EvReply, Who: 1, N: 13}, {Kind: impl.EvSend, Who: 1, N: -1}, {Kind: impl.EvReply, N: -1},
			{Kind: impl.EvSend, Who: 2, N: 1}, {Kind: impl.EvReply, Who: -1, N: 1}, {Kind: impl.EvData, Who: 2, At: 500}, {Kind: impl.EvWord, Who: -1, At: 500},
		} {
			if got := impl.WldStep(w, bad); !sameWorld(got, w) {
				t.Fatalf("%v of %v leaves %v", bad, w, got)
			}
		}
	})
}

// Promises 88 and 89.
func TestWhoHasAPortIsInsideOrWasNamed(t *testing.T) {
	eachWorld(func(w impl.WldWorld, _ [2]bool) {
		may := map[impl.EndPoint]bool{}
		for _, side := range w.Sides {
			lines, _ := linesByBytes(side.Says)
			for _, line := range lines {
				may[allNames()[line]] = true
			}
		}
		for k, e := range w.Box.Table.Ends {
			inside := e == w.Sides[0].In || e == w.Sides[1].In
			if !inside && (k == 0 || !may[e]) {
				t.Fatalf("the ends that have ports are %v, of %v", w.Box.Table, w.Sides)
			}
		}
	})
}

// Promises 76 and 90.
func TestNoLineComesThatWasNotSent(t *testing.T) {
	plain := 0
	eachWorld(func(w impl.WldWorld, _ [2]bool) {
		for _, side := range w.Sides {
			if strings.Count(side.Got, ";") > strings.Count(side.Says, ";") || strings.Count(side.Came, ";") > strings.Count(side.Backs, ";") {
				t.Fatalf("more has come than was sent: %v", side)
			}
			lines, _ := linesByBytes(side.Says)
			if slices.ContainsFunc(lines, func(line string) bool { return wantSide(allNames()[line].Addr) == inside }) {
				continue
			}
			plain += len(side.Got)
			if !strings.HasPrefix(side.Says, side.Got) {
				t.Fatalf("of %q has come %q", side.Says, side.Got)
			}
		}
	})
	if plain < 1000 {
		t.Fatal(plain)
	}
}

// toldBehind is the ends to which words come by an event, and by all that is on its way then.
func toldBehind(w impl.WldWorld, e impl.EvEvent) []impl.EndPoint {
	now := impl.WldRun(w, []impl.EvEvent{e, {Kind: impl.EvHear}, {Kind: impl.EvHear}})
	return now.Told[len(w.Told):]
}

// Promise 15.
func TestWhoIsNamedIsFound(t *testing.T) {
	fromOutside, fromInside, denied := 0, 0, 0
	for _, k := range calmWalks() {
		w := k.last()
		for _, side := range w.Sides {
			said, _ := linesByBytes(side.Says)
			got, _ := linesByBytes(side.Got)
			for i, line := range got {
				e, named := allNames()[said[i]], allNames()[line]
				if wantSide(e.Addr) != inside || named.Addr != 50 {
					continue
				}
				told := toldBehind(w, impl.EvEvent{Kind: impl.EvData, At: named.Port})
				if !wantMay(w.Box.Rules, e, end(109, 7)) {
					denied++
					if len(told) != 0 {
						t.Fatalf("a word to %d comes to %v, which may not", named.Port, told)
					}
				} else if fromOutside++; !slices.Equal(told, []impl.EndPoint{e}) {
					t.Fatalf("%q is %q, but a word to %d comes to %v", said[i], line, named.Port, told)
				}
				for who, from := range w.Sides {
					if !slices.Contains(w.Box.Table.Ends, from.In) {
						continue
					}
					fromInside++
					if told := toldBehind(w, impl.EvEvent{Kind: impl.EvWord, Who: who, At: named.Port}); !slices.Equal(told, []impl.EndPoint{e}) {
						t.Fatalf("%q is %q, but a word from %v to %d comes to %v", said[i], line, from.In, named.Port, told)
					}
				}
			}
		}
	}
	if min(fromOutside, fromInside, denied) < 100 {
		t.Fatal(fromOutside, fromInside, denied)
	}
}

// Promise 91.
func TestAWordToAPortThatNobodyHas(t *testing.T) {
	for _, k := range calmWalks() {
		w := k.last()
		for _, port := range []int{-1, 0, 1, 7, 21, 499, 500 + len(w.Box.Table.Ends), 505 + 1, 999, 1000, 500 + 1<<16} {
			for _, e := range []impl.EvEvent{{Kind: impl.EvData, At: port}, {Kind: impl.EvWord, At: port}, {Kind: impl.EvWord, Who: 1, At: port}} {
				if told := toldBehind(w, e); len(told) != 0 {
					t.Fatalf("a word to %d comes to %v, by %v", port, told, w.Box.Table)
				}
			}
		}
	}
}

// Promise 74.
func TestBehindAllThatComesNothingComes(t *testing.T) {
	for _, k := range calmWalks() {
		w := k.last()
		once := impl.WldCalm(w, 1)
		if !sameBox(once.Box, w.Box) || !slices.Equal(once.Sides, w.Sides) || !sameWorld(once, w) {
			t.Fatalf("%v is %v behind one round more", w, once)
		}
		if len(w.Net) != 0 {
			t.Fatalf("on their way are %v", w.Net)
		}
	}
}

// Promise 99: all of a stream once more, from its beginning, and all that is sent back, piece by piece, in whatever pieces.
func TestWhatWasSentOnceMayBeSentOnceMore(t *testing.T) {
	for k, x := range calmWalks() {
		w := x.last()
		for who := range w.Sides {
			for kind, s := range map[int]string{impl.EvSend: w.Sides[who].Says, impl.EvReply: w.Sides[who].Backs} {
				size := 12 - (k % 7)
				var events []impl.EvEvent
				for at := 0; at <= len(s); at += size {
					events = append(events, impl.EvEvent{Kind: kind, Who: who, At: at, N: size})
				}
				now := impl.WldRun(w, events)
				for len(now.Net) > 0 {
					now = impl.WldStep(now, impl.EvEvent{Kind: impl.EvHear})
				}
				if !slices.Equal(now.Sides, w.Sides) || !sameBox(now.Box, w.Box) {
					t.Fatalf("%v is %v behind all of %q once more", w.Sides, now.Sides, s)
				}
			}
		}
	}
}

// Promise 49: some rounds, and then some more, against all; of none the world is as it is.
func TestCalmBehindCalmIsOneCalm(t *testing.T) {
	for k, x := range allWalks() {
		if k%3 != 0 {
			continue
		}
		w := x.worlds[(37*k)%len(x.worlds)]
		some, more := k%4, k/3%3
		if got, want := impl.WldCalm(impl.WldCalm(w, some), more), impl.WldCalm(w, some+more); !sameWorld(got, want) {
			t.Fatalf("%d rounds and %d rounds of %v leave %v, not %v", some, more, w, got, want)
		}
		if got := impl.WldCalm(w, 0); !sameWorld(got, w) {
			t.Fatalf("no rounds of %v leave %v", w, got)
		}
	}
}

// Promise 48: a walk's events at once, in two parts, and one by one.
func TestARunIsItsParts(t *testing.T) {
	r := rand.New(rand.NewSource(48))
	for _, k := range allWalks() {
		first := k.worlds[0]
		if got := impl.WldRun(first, k.events); !sameWorld(got, k.last()) {
			t.Fatalf("all at once %v leaves %v, one by one %v", k.events, got, k.last())
		}
		at := r.Intn(len(k.events) + 1)
		half := impl.WldRun(first, k.events[:at])
		if !sameWorld(half, k.worlds[at]) || !sameWorld(impl.WldRun(half, k.events[at:]), k.last()) {
			t.Fatalf("%v in two parts, from %d on, leaves something else", k.events, at)
		}
	}
}

// Promise 73: one inside alone, as the other one may not send; whatever happens to its segments, and then in a calm.
func TestOneInsideByItselfHasTheFirstPort(t *testing.T) {
	r := rand.New(rand.NewSource(73))
	named := 0
	for k := range 80 {
		alone := k % 2
		ins := []impl.EndPoint{end(1, 7), end(3, 7)}
		says := someSays(r)
		sides := []impl.WldSide{worldSide(ins[0], someSays(r), someBacks(r)), worldSide(ins[1], someSays(r), someBacks(r))}
		sides[alone].Says = says
		w := impl.WldNew([]impl.RulRule{rule(false, ins[1-alone].Addr, ins[1-alone].Addr, 100, 100, 21, 21)}, end(100, 21), sides)
		for range 40 {
			e := someEvent(r, w, [9]int{0, 6, 4, 14, 2, 2, 2, 0, 0})
			w = impl.WldStep(w, e)
		}
		w = impl.WldCalm(w, calmEnough)
		_, far := wantStream(allNames(), tab(ins[alone]), says)
		if w.Sides[alone].Got != far || impl.MapPort(w.Box.Table, ins[alone]) != 500 || w.Sides[1-alone].Got != "" {
			t.Fatalf("of %q comes %q, not %q, by %v", says, w.Sides[alone].Got, far, w.Box.Table)
		}
		named += strings.Count(far, "port 50 50")
	}
	if named < 100 {
		t.Fatal(named)
	}
}

// Promise 98: both in either order, in a calm.
func TestWhichIsNamedFirstMakesNoDifference(t *testing.T) {
	r := rand.New(rand.NewSource(98))
	lines := 0
	for range 80 {
		w := firstWorld(r)
		one := impl.WldCalm(w, calmEnough)
		two := impl.WldCalm(impl.WldNew(w.Box.Rules, w.Out, []impl.WldSide{w.Sides[1], w.Sides[0]}), calmEnough)
		for k, side := range one.Sides {
			other := two.Sides[1-k]
			if side.In != other.In || strings.Count(side.Got, ";") != strings.Count(other.Got, ";") {
				t.Fatalf("of %v come as many lines as %q has, and told last as %q has", side.In, side.Got, other.Got)
			}
			lines += strings.Count(side.Got, ";")
		}
	}
	if lines < 300 {
		t.Fatal(lines)
	}
}
