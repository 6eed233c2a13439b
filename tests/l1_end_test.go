package tests

import (
	"math"
	"strconv"
	"strings"
	"testing"

	"loop.example/hatchway/impl"
)

type side int

const (
	nowhere side = iota
	inside
	outside
	box
)

func end(addr, port int) impl.EndPoint {
	return impl.EndPoint{Addr: addr, Port: port}
}

// checkSide holds all that chapter 1 says of an end, or of what is none, against what the program answers.
func checkSide(t *testing.T, e impl.EndPoint, want side) {
	t.Helper()
	if got := impl.EndInside(e); got != (want == inside) {
		t.Errorf("EndInside(%v) = %v", e, got)
	}
	if got := impl.EndOutside(e); got != (want == outside) {
		t.Errorf("EndOutside(%v) = %v", e, got)
	}
	if got := impl.EndOk(e); got != (want != nowhere) {
		t.Errorf("EndOk(%v) = %v", e, got)
	}
	text := strconv.Itoa(e.Addr) + " " + strconv.Itoa(e.Port)
	if want == nowhere {
		checkNoEnd(t, text)
		text = ""
	} else if got, ok := impl.EndRead(text); !ok || got != e {
		t.Errorf("EndRead(%q) = %v, %v", text, got, ok)
	}
	if got := impl.EndText(e); got != text {
		t.Errorf("EndText(%v) = %q, not %q", e, got, text)
	}
}

func checkNoEnd(t *testing.T, s string) {
	t.Helper()
	if e, ok := impl.EndRead(s); ok || e != (impl.EndPoint{}) {
		t.Errorf("EndRead(%q) = %v, %v", s, e, ok)
	}
}

// Promise 18, and the edges of each range of addresses and of the ports.
func TestEndSidesAtEdges(t *testing.T) {
	sides := map[int]side{
		math.MinInt: nowhere, -50: nowhere, -1: nowhere, 0: nowhere,
		1: inside, 2: inside, 8: inside, 9: inside, 10: nowhere,
		49: nowhere, 50: box, 51: nowhere,
		99: nowhere, 100: outside, 101: outside, 108: outside, 109: outside, 110: nowhere,
		1000: nowhere, 1<<32 + 1: nowhere, math.MaxInt: nowhere,
	}
	ports := map[int]bool{
		math.MinInt: false, -999: false, -1: false, 0: false,
		1: true, 2: true, 21: true, 500: true, 998: true, 999: true,
		1000: false, 1001: false, 1<<32 + 1: false, math.MaxInt: false,
	}
	for addr, want := range sides {
		for port, good := range ports {
			if good {
				checkSide(t, end(addr, port), want)
			} else {
				checkSide(t, end(addr, port), nowhere)
			}
		}
	}
}

// wantSide is the side that each address near the ranges is on, told one by one.
func wantSide(addr int) side {
	switch addr {
	case 1, 2, 3, 4, 5, 6, 7, 8, 9:
		return inside
	case 50:
		return box
	case 100, 101, 102, 103, 104, 105, 106, 107, 108, 109:
		return outside
	}
	return nowhere
}

// Promises 17, 18 and 95, of every end that there is.
func TestEveryEnd(t *testing.T) {
	texts := map[string]impl.EndPoint{}
	keys := map[impl.EndPoint]bool{}
	for addr := -3; addr <= 1002; addr++ {
		want := wantSide(addr)
		if want == nowhere {
			checkSide(t, end(addr, 7), nowhere)
			continue
		}
		for port := 1; port <= 999; port++ {
			e := end(addr, port)
			checkSide(t, e, want)
			texts[impl.EndText(e)] = e
			keys[e] = true
		}
	}
	if len(texts) != 20*999 || len(keys) != 20*999 {
		t.Fatal(len(texts), len(keys))
	}
}

func TestEndTextOfEachKind(t *testing.T) {
	for text, e := range map[string]impl.EndPoint{
		"1 1":     end(1, 1),
		"9 999":   end(9, 999),
		"50 501":  end(50, 501),
		"100 21":  end(100, 21),
		"109 999": end(109, 999),
	} {
		if got := impl.EndText(e); got != text {
			t.Errorf("EndText(%v) = %q", e, got)
		}
		if got, ok := impl.EndRead(text); !ok || got != e {
			t.Errorf("EndRead(%q) = %v, %v", text, got, ok)
		}
	}
}

func TestEndReadOfWhatIsNone(t *testing.T) {
	huge := strings.Repeat("9", 400)
	for _, s := range []string{
		"", " ", "  ", "7", "7 ", " 7", "50", "box", "7 x", "x 7", "port 7 1",
		"0 1", "7 0", "10 1", "49 1", "51 1", "99 1", "110 1", "7 1000", "50 1000", "100 1000",
		"07 1", "7 01", "7 001", "050 1", "0100 1", "00 1", "7 00", "100 021",
		"+7 1", "7 +1", "-7 1", "7 -1", "--7 1", "-0 1", "7 -0", "+0 +0", "- 1", "7 +",
		" 7 1", "7  1", "7 1 ", "  7 1", "7   1", " 7 1 ", "71",
		"7 1 1", "7 1;", "7 1\n", "7 1\x00", "\x007 1", "7 1x", "7 1.0", "7. 1", "7,1", "7:1",
		"7\t1", "7\n1", "7\u00a01", "7\x001", "\t7 1", "7 1\t", "7 1\r",
		"0x7 1", "7 0x1", "0b1 1", "0o7 1", "7 1_0", "1_0 1", "7 1e1", "1e2 1", "\u0667 1", "7 \u0661", "\xff 1", "7 \xff",
		"2147483648 1", "7 2147483648", "4294967297 1", "7 4294967297",
		"9223372036854775808 1", "7 9223372036854775808", "18446744073709551617 1", "7 18446744073709551617",
		"-9223372036854775809 1", huge + " 1", "7 " + huge, huge, huge + " " + huge,
		"7 " + strings.Repeat("0", 400) + "1", strings.Repeat(" ", 400), "7" + strings.Repeat(" ", 400) + "1",
	} {
		checkNoEnd(t, s)
	}
}

// Of every short text of these signs just those are read that are an end's text.
func TestEndReadOfEveryShortText(t *testing.T) {
	const signs = "0159 -+"
	most := 6
	if testing.Short() {
		most = 5
	}
	read := 0
	for _, s := range textsOf(signs, most) {
		want, good := wantRead(s)
		got, ok := impl.EndRead(s)
		if ok != good || got != want {
			t.Fatalf("EndRead(%q) = %v, %v", s, got, ok)
		}
		if ok {
			read++
			if !impl.EndOk(got) || impl.EndText(got) != s {
				t.Fatalf("%q is read as %v", s, got)
			}
		}
	}
	if read == 0 {
		t.Fatal("nothing was read")
	}
}

// textsOf is all texts of at most so many of these signs.
func textsOf(signs string, most int) []string {
	all, last := []string{""}, []string{""}
	for range most {
		var longer []string
		for _, s := range last {
			for i := range len(signs) {
				longer = append(longer, s+signs[i:i+1])
			}
		}
		all, last = append(all, longer...), longer
	}
	return all
}

// wantRead looks for the end of a text by trying all of them.
func wantRead(s string) (impl.EndPoint, bool) {
	for addr := 1; addr <= 109; addr++ {
		rest, ok := strings.CutPrefix(s, strconv.Itoa(addr)+" ")
		if !ok || wantSide(addr) == nowhere {
			continue
		}
		for port := 1; port <= 999; port++ {
			if rest == strconv.Itoa(port) {
				return end(addr, port), true
			}
		}
	}
	return impl.EndPoint{}, false
}
