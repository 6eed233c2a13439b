package tests

import (
	"math"
	"math/rand"
	"regexp"
	"slices"
	"strconv"
	"strings"
	"testing"

	"loop.example/hatchway/impl"
)

var ruleForm = regexp.MustCompile(`\A(allow|deny) ([1-9]) ([1-9]) (10[0-9]) (10[0-9]) ([1-9][0-9]{0,2}) ([1-9][0-9]{0,2})\z`)

func rule(allow bool, in, inTo, out, outTo, port, portTo int) impl.RulRule {
	return impl.RulRule{Allow: allow, In: in, InTo: inTo, Out: out, OutTo: outTo, Port: port, PortTo: portTo}
}

// middleRule is a rule with room to both sides of each of its bounds.
func middleRule(allow bool) impl.RulRule {
	return rule(allow, 3, 5, 102, 106, 20, 30)
}

func turned(r impl.RulRule) impl.RulRule {
	r.Allow = !r.Allow
	return r
}

// wantRuleOk is RulOk, asked side by side of both bounds of each pair.
func wantRuleOk(r impl.RulRule) bool {
	for _, addr := range []int{r.In, r.InTo} {
		if wantSide(addr) != inside {
			return false
		}
	}
	for _, addr := range []int{r.Out, r.OutTo} {
		if wantSide(addr) != outside {
			return false
		}
	}
	for _, port := range []int{r.Port, r.PortTo} {
		if port < 1 || port > 999 {
			return false
		}
	}
	return r.In <= r.InTo && r.Out <= r.OutTo && r.Port <= r.PortTo
}

// wantAbout is whether a rule that is ok is about two ends, by a walk from each first bound to the other one.
func wantAbout(r impl.RulRule, in, out impl.EndPoint) bool {
	walk := func(n, from, to int) bool {
		for k := from; k <= to; k++ {
			if k == n {
				return true
			}
		}
		return false
	}
	return walk(in.Addr, r.In, r.InTo) && walk(out.Addr, r.Out, r.OutTo) && walk(out.Port, r.Port, r.PortTo)
}

// wantMay is RulMay: the last rule that is about both is asked first, and each one ahead of it says otherwise, if it does.
func wantMay(list []impl.RulRule, in, out impl.EndPoint) bool {
	if len(list) > 5 || wantSide(in.Addr) != inside || wantSide(out.Addr) != outside || !wantEnd(in) || !wantEnd(out) {
		return false
	}
	may := true
	for k := len(list) - 1; k >= 0; k-- {
		if !wantRuleOk(list[k]) {
			return false
		}
		if wantAbout(list[k], in, out) {
			may = list[k].Allow
		}
	}
	return may
}

func checkMay(t *testing.T, list []impl.RulRule, in, out impl.EndPoint) {
	t.Helper()
	if got := impl.RulMay(list, in, out); got != wantMay(list, in, out) {
		t.Fatalf("RulMay(%v, %v, %v) = %v", list, in, out, got)
	}
}

// wantRuleText is RulText of a rule that is ok.
func wantRuleText(r impl.RulRule) string {
	words := []string{"deny"}
	if r.Allow {
		words[0] = "allow"
	}
	for _, n := range []int{r.In, r.InTo, r.Out, r.OutTo, r.Port, r.PortTo} {
		words = append(words, strconv.Itoa(n))
	}
	return strings.Join(words, " ")
}

// wantRule is RulRead by the form of a rule's text.
func wantRule(s string) (impl.RulRule, bool) {
	parts := ruleForm.FindStringSubmatch(s)
	if parts == nil {
		return impl.RulRule{}, false
	}
	var n []int
	for _, part := range parts[2:] {
		k, _ := strconv.Atoi(part)
		n = append(n, k)
	}
	if n[0] > n[1] || n[2] > n[3] || n[4] > n[5] {
		return impl.RulRule{}, false
	}
	return rule(parts[1] == "allow", n[0], n[1], n[2], n[3], n[4], n[5]), true
}

// checkRuleText is promise 35 of any text, and what it is read as.
func checkRuleText(t *testing.T, s string) bool {
	t.Helper()
	want, good := wantRule(s)
	got, ok := impl.RulRead(s)
	if got != want || ok != good {
		t.Fatalf("RulRead(%.200q) = %v, %v", s, got, ok)
	}
	if ok && (!impl.RulOk(got) || impl.RulText(got) != s) {
		t.Fatalf("%q is read as %v, which is written as %q", s, got, impl.RulText(got))
	}
	return ok
}

func checkNoRule(t *testing.T, s string) {
	t.Helper()
	if got, ok := impl.RulRead(s); ok || got != (impl.RulRule{}) {
		t.Fatalf("RulRead(%.200q) = %v, %v", s, got, ok)
	}
}

// strange is numbers that are neither addresses nor ports, some of them so but for what they have beyond 32 bits, or 16, or 8.
func strange() []int {
	return []int{math.MinInt, math.MinInt + 5, -1 << 32, -999, -100, -5, -1, 0, 10, 50, 99, 110, 1000, 256 + 5, 65536 + 5, 65536 + 104, 1<<32 + 5, 1<<32 + 104, math.MaxInt}
}

// okRules is rules whose bounds are at their edges, the same, and in order, each allowing and denying.
func okRules() []impl.RulRule {
	var list []impl.RulRule
	for _, allow := range []bool{true, false} {
		for _, in := range [][2]int{{1, 1}, {1, 9}, {9, 9}, {1, 2}, {8, 9}, {3, 5}} {
			for _, out := range [][2]int{{100, 100}, {100, 109}, {109, 109}, {100, 101}, {108, 109}, {102, 106}} {
				for _, port := range [][2]int{{1, 1}, {1, 999}, {999, 999}, {1, 2}, {998, 999}, {21, 21}, {9, 10}, {99, 100}, {20, 30}} {
					list = append(list, rule(allow, in[0], in[1], out[0], out[1], port[0], port[1]))
				}
			}
		}
	}
	return list
}

// noRules is rules that are not ok for one bound, or one pair of bounds, alone; and nothing.
func noRules() []impl.RulRule {
	var list []impl.RulRule
	for _, allow := range []bool{true, false} {
		list = append(list,
			impl.RulRule{Allow: allow},
			rule(allow, 5, 3, 102, 106, 20, 30), rule(allow, 3, 5, 106, 102, 20, 30), rule(allow, 3, 5, 102, 106, 30, 20),
			rule(allow, 5, 3, 106, 102, 30, 20), rule(allow, 9, 1, 109, 100, 999, 1), rule(allow, 102, 106, 3, 5, 20, 30),
			rule(allow, 2, 1, 100, 100, 1, 1), rule(allow, 1, 1, 101, 100, 1, 1), rule(allow, 1, 1, 100, 100, 2, 1),
			rule(allow, 0, 9, 100, 109, 1, 999), rule(allow, 1, 10, 100, 109, 1, 999), rule(allow, 1, 9, 99, 109, 1, 999),
			rule(allow, 1, 9, 100, 110, 1, 999), rule(allow, 1, 9, 100, 109, 0, 999), rule(allow, 1, 9, 100, 109, 1, 1000),
			rule(allow, 50, 50, 102, 106, 20, 30), rule(allow, 3, 5, 50, 50, 20, 30), rule(allow, 3, 50, 102, 106, 20, 30), rule(allow, 3, 5, 50, 106, 20, 30),
		)
		for k := range 6 {
			for _, n := range strange() {
				if bad := withBound(middleRule(allow), k, n); !wantRuleOk(bad) {
					list = append(list, bad)
				}
			}
		}
	}
	return list
}

// withBound is a rule with its k-th number another one.
func withBound(r impl.RulRule, k, n int) impl.RulRule {
	switch k {
	case 0:
		r.In = n
	case 1:
		r.InTo = n
	case 2:
		r.Out = n
	case 3:
		r.OutTo = n
	case 4:
		r.Port = n
	case 5:
		r.PortTo = n
	}
	return r
}

func TestRulOk(t *testing.T) {
	for _, r := range okRules() {
		if !impl.RulOk(r) || !wantRuleOk(r) {
			t.Errorf("%v is not ok", r)
		}
	}
	for _, r := range noRules() {
		if impl.RulOk(r) || wantRuleOk(r) {
			t.Errorf("%v is ok", r)
		}
	}
}

// Promise 84: each pair of bounds of numbers near and far, equal, in order and turned about, with the other pairs ok and not.
func TestRulOkOfEachPairOfBounds(t *testing.T) {
	numbers := append(strange(), 1, 2, 3, 5, 8, 9, 11, 100, 101, 102, 106, 108, 109, 111, 998, 999, 1001)
	ok := 0
	for _, r := range []impl.RulRule{middleRule(true), middleRule(false), rule(true, 1, 9, 100, 109, 1, 999), rule(false, 9, 9, 100, 100, 1, 1), {}, rule(true, 5, 3, 102, 106, 20, 30)} {
		for k := 0; k < 6; k += 2 {
			for _, from := range numbers {
				for _, to := range numbers {
					x := withBound(withBound(r, k, from), k+1, to)
					if got := impl.RulOk(x); got != wantRuleOk(x) {
						t.Fatalf("RulOk(%v) = %v", x, got)
					} else if got {
						ok++
					}
				}
			}
		}
	}
	if ok < 500 {
		t.Fatal(ok)
	}
}

// Promise 84: a rule that is ok, with both bounds of one pair turned about.
func TestBoundsTurnedAbout(t *testing.T) {
	for _, r := range okRules() {
		for _, c := range []struct {
			about impl.RulRule
			same  bool
		}{
			{rule(r.Allow, r.InTo, r.In, r.Out, r.OutTo, r.Port, r.PortTo), r.In == r.InTo},
			{rule(r.Allow, r.In, r.InTo, r.OutTo, r.Out, r.Port, r.PortTo), r.Out == r.OutTo},
			{rule(r.Allow, r.In, r.InTo, r.Out, r.OutTo, r.PortTo, r.Port), r.Port == r.PortTo},
		} {
			if got := impl.RulOk(c.about); got != c.same {
				t.Errorf("RulOk(%v) = %v", c.about, got)
			}
			if _, ok := impl.RulRead(wantRuleText(c.about)); ok != c.same {
				t.Errorf("RulRead(%q) reads: %v", wantRuleText(c.about), ok)
			}
			if !c.same && (impl.RulText(c.about) != "" || impl.RulMay([]impl.RulRule{c.about}, end(1, 7), end(100, 21))) {
				t.Errorf("%v stands as a rule", c.about)
			}
		}
	}
}

// insides and outsides are ends at each address, some at each of the ports that a rule here names, and near them.
func insides() []impl.EndPoint {
	var list []impl.EndPoint
	for addr := 1; addr <= 9; addr++ {
		for _, port := range []int{1, 21, 25, 999} {
			list = append(list, end(addr, port))
		}
	}
	return list
}

func outsides() []impl.EndPoint {
	var list []impl.EndPoint
	for addr := 100; addr <= 109; addr++ {
		for _, port := range []int{1, 2, 3, 8, 9, 10, 11, 19, 20, 21, 22, 29, 30, 31, 98, 99, 100, 101, 997, 998, 999} {
			list = append(list, end(addr, port))
		}
	}
	return list
}

// eachPair hands on each of some ends inside with each of some outside.
func eachPair(check func(in, out impl.EndPoint)) {
	for _, in := range insides() {
		for _, out := range outsides() {
			check(in, out)
		}
	}
}

func TestRulMayByHand(t *testing.T) {
	deny, allow := middleRule(false), middleRule(true)
	all, none := rule(true, 1, 9, 100, 109, 1, 999), rule(false, 1, 9, 100, 109, 1, 999)
	one := rule(false, 3, 3, 102, 102, 20, 20)
	for _, c := range []struct {
		list    []impl.RulRule
		in, out impl.EndPoint
		want    bool
	}{
		{nil, end(3, 7), end(102, 20), true},
		{[]impl.RulRule{deny}, end(3, 7), end(102, 20), false},
		{[]impl.RulRule{deny}, end(5, 999), end(106, 30), false},
		{[]impl.RulRule{deny}, end(2, 7), end(102, 20), true},
		{[]impl.RulRule{deny}, end(6, 7), end(102, 20), true},
		{[]impl.RulRule{deny}, end(3, 7), end(101, 20), true},
		{[]impl.RulRule{deny}, end(3, 7), end(107, 20), true},
		{[]impl.RulRule{deny}, end(3, 7), end(102, 19), true},
		{[]impl.RulRule{deny}, end(3, 25), end(102, 31), true},
		{[]impl.RulRule{deny, all}, end(3, 7), end(102, 20), false},
		{[]impl.RulRule{all, deny}, end(3, 7), end(102, 20), true},
		{[]impl.RulRule{allow, none}, end(3, 7), end(102, 20), true},
		{[]impl.RulRule{none, allow}, end(3, 7), end(102, 20), false},
		{[]impl.RulRule{allow, none}, end(2, 7), end(102, 20), false},
		{[]impl.RulRule{one, allow, none}, end(3, 7), end(102, 20), false},
		{[]impl.RulRule{one, allow, none}, end(3, 7), end(102, 21), true},
		{[]impl.RulRule{one, allow, none}, end(3, 7), end(102, 31), false},
		{[]impl.RulRule{one, one, one, one, all}, end(3, 7), end(102, 20), false},
		{[]impl.RulRule{deny, deny, deny, deny, none}, end(1, 7), end(100, 21), false},
		{[]impl.RulRule{deny, deny, deny, deny, deny}, end(1, 7), end(100, 21), true},
	} {
		if got := impl.RulMay(c.list, c.in, c.out); got != c.want || wantMay(c.list, c.in, c.out) != c.want {
			t.Errorf("RulMay(%v, %v, %v) = %v", c.list, c.in, c.out, got)
		}
	}
}

// No rules, and one alone: about both ends, about one alone, and about neither, at both ends of each of its bounds.
func TestRulMayOfOneRule(t *testing.T) {
	eachPair(func(in, out impl.EndPoint) {
		if !impl.RulMay(nil, in, out) || !impl.RulMay([]impl.RulRule{}, in, out) {
			t.Fatalf("%v and %v may not, though there are no rules", in, out)
		}
		checkMay(t, []impl.RulRule{middleRule(false)}, in, out)
		checkMay(t, []impl.RulRule{middleRule(true)}, in, out)
	})
	for k, r := range okRules() {
		for i, in := range insides() {
			for j, out := range outsides() {
				if (i+j+k)%5 == 0 {
					checkMay(t, []impl.RulRule{r}, in, out)
				}
			}
		}
	}
}

// The port of the one inside is in no rule, though it may be one of those that a rule names.
func TestThePortInsideMakesNoDifference(t *testing.T) {
	for _, r := range []impl.RulRule{middleRule(false), rule(false, 1, 9, 100, 109, 21, 21), rule(false, 3, 3, 102, 102, 1, 500)} {
		for _, out := range outsides() {
			want := impl.RulMay([]impl.RulRule{r}, end(3, 1), out)
			for port := 1; port <= 999; port += 7 {
				if impl.RulMay([]impl.RulRule{r}, end(3, port), out) != want {
					t.Fatalf("%v, %v and %v: the port inside makes a difference", r, end(3, port), out)
				}
			}
		}
	}
}

// aboutKinds is rules, of which some are about 3 7 and 102 20, and the others about one end alone, or about neither.
func aboutKinds() []impl.RulRule {
	var list []impl.RulRule
	for _, allow := range []bool{true, false} {
		list = append(list,
			rule(allow, 3, 3, 102, 102, 20, 20),
			rule(allow, 1, 9, 100, 109, 1, 999),
			rule(allow, 1, 2, 102, 102, 20, 20),
			rule(allow, 3, 3, 103, 109, 1, 999),
			rule(allow, 3, 3, 102, 102, 21, 999),
			rule(allow, 9, 9, 109, 109, 999, 999),
		)
	}
	return list
}

// eachList hands on all lists of at most so many of some rules.
func eachList(kinds []impl.RulRule, most int, check func(list []impl.RulRule)) {
	var longer func(list []impl.RulRule)
	longer = func(list []impl.RulRule) {
		check(slices.Clone(list))
		if len(list) == most {
			return
		}
		for _, r := range kinds {
			longer(slices.Concat(list, []impl.RulRule{r}))
		}
	}
	longer(nil)
}

// Promise 36: all lists of a few rules, in all orders, so that two or more are about both.
func TestTheFirstRuleAboutBothSays(t *testing.T) {
	eachList(aboutKinds(), 4, func(list []impl.RulRule) {
		for _, in := range []impl.EndPoint{end(3, 7), end(2, 7), end(9, 20)} {
			checkMay(t, list, in, end(102, 20))
			checkMay(t, list, in, end(109, 999))
		}
	})
	few := []impl.RulRule{rule(true, 3, 3, 102, 102, 20, 20), rule(false, 1, 9, 100, 109, 1, 999), rule(true, 1, 2, 102, 102, 20, 20), rule(false, 9, 9, 109, 109, 999, 999)}
	eachList(few, 5, func(list []impl.RulRule) {
		checkMay(t, list, end(3, 7), end(102, 20))
		checkMay(t, list, end(9, 7), end(109, 999))
	})
}

// Promise 36: a rule that is about both, ahead of all; and one that allows what is about both, behind all.
func TestRulesAheadAndBehind(t *testing.T) {
	in, out := end(3, 7), end(102, 20)
	eachList(aboutKinds(), 4, func(list []impl.RulRule) {
		for _, r := range aboutKinds() {
			if !wantAbout(r, in, out) {
				continue
			}
			if got := impl.RulMay(slices.Concat([]impl.RulRule{r}, list), in, out); got != r.Allow {
				t.Fatalf("%v ahead of %v: %v", r, list, got)
			}
			behind := impl.RulMay(slices.Concat(list, []impl.RulRule{r}), in, out)
			if r.Allow && behind != impl.RulMay(list, in, out) {
				t.Fatalf("%v behind %v: %v", r, list, behind)
			}
			if !r.Allow && behind != (impl.RulMay(list, in, out) && anyAbout(list, in, out)) {
				t.Fatalf("%v behind %v: %v", r, list, behind)
			}
		}
	})
}

func anyAbout(list []impl.RulRule, in, out impl.EndPoint) bool {
	return slices.ContainsFunc(list, func(r impl.RulRule) bool { return wantAbout(r, in, out) })
}

// Promise 66: rules that are not about both, put in and left out at each place.
func TestRulesAboutOthersMakeNoDifference(t *testing.T) {
	in, out := end(3, 7), end(102, 20)
	eachList(aboutKinds(), 3, func(list []impl.RulRule) {
		want := impl.RulMay(list, in, out)
		for at := range len(list) + 1 {
			for _, r := range aboutKinds() {
				if wantAbout(r, in, out) {
					continue
				}
				for many := 1; many <= 5-len(list); many++ {
					more := slices.Insert(slices.Clone(list), at, slices.Repeat([]impl.RulRule{r}, many)...)
					if impl.RulMay(more, in, out) != want {
						t.Fatalf("%v is not about %v and %v, but RulMay(%v) = %v", r, in, out, more, !want)
					}
				}
			}
			if at < len(list) && !wantAbout(list[at], in, out) {
				less := slices.Delete(slices.Clone(list), at, at+1)
				if impl.RulMay(less, in, out) != want {
					t.Fatalf("%v without the one at %d: %v", list, at, !want)
				}
			}
		}
	})
}

// Promise 66: what is behind a rule that is about both makes no difference, left out, turned about, or more of it.
func TestRulesBehindOneAboutBoth(t *testing.T) {
	in, out := end(3, 7), end(102, 20)
	eachList(aboutKinds(), 4, func(list []impl.RulRule) {
		at := slices.IndexFunc(list, func(r impl.RulRule) bool { return wantAbout(r, in, out) })
		if at < 0 {
			if !impl.RulMay(list, in, out) {
				t.Fatalf("no rule of %v is about %v and %v", list, in, out)
			}
			return
		}
		others := [][]impl.RulRule{list, list[:at+1]}
		other := slices.Clone(list)
		for k := at + 1; k < len(other); k++ {
			other[k] = turned(other[k])
			others = append(others, list[:k], slices.Clone(other))
		}
		others = append(others, slices.Concat(list, []impl.RulRule{turned(list[at])}))
		for _, x := range others {
			if impl.RulMay(x, in, out) != list[at].Allow {
				t.Fatalf("RulMay(%v, %v, %v) is not as the rule at %d says", x, in, out, at)
			}
		}
	})
}

// Promise 84: ends that no rule is about, for each reason why one may not be.
func TestEndsThatNoRuleIsAbout(t *testing.T) {
	r := middleRule(false)
	eachPair(func(in, out impl.EndPoint) {
		if wantAbout(r, in, out) {
			return
		}
		for many := range impl.RulMost + 1 {
			for _, list := range [][]impl.RulRule{slices.Repeat([]impl.RulRule{r}, many), slices.Repeat([]impl.RulRule{turned(r)}, many)} {
				if !impl.RulMay(list, in, out) {
					t.Fatalf("RulMay(%v, %v, %v) is false", list, in, out)
				}
			}
		}
	})
}

// As many rules as there may be, and more, of each kind: one too many, and nobody may, whatever they say.
func TestHowManyRulesThereMayBe(t *testing.T) {
	in, out := end(3, 7), end(102, 20)
	for _, r := range aboutKinds() {
		for _, many := range []int{0, 1, 2, 3, 4, 5} {
			want := r.Allow || many == 0 || !wantAbout(r, in, out)
			if got := impl.RulMay(slices.Repeat([]impl.RulRule{r}, many), in, out); got != want {
				t.Errorf("%d times %v: %v", many, r, got)
			}
		}
		for _, many := range []int{6, 7, 8, 10, 11, 60, 256, 257, 65536 + 5, 1 << 18} {
			if impl.RulMay(slices.Repeat([]impl.RulRule{r}, many), in, out) {
				t.Errorf("%d times %v, and they may", many, r)
			}
		}
	}
}

// A rule that is not ok, at each place of each number of rules: nobody may, though one ahead of it is about both and allows.
func TestRulMayOfRulesThatAreNotOk(t *testing.T) {
	all := rule(true, 1, 9, 100, 109, 1, 999)
	other := rule(true, 9, 9, 109, 109, 999, 999)
	ends := []impl.EndPoint{end(3, 7), end(4, 7), end(1, 7), end(9, 999)}
	for _, bad := range noRules() {
		for many := range impl.RulMost {
			for at := range many + 1 {
				for _, good := range []impl.RulRule{all, other} {
					list := slices.Insert(slices.Repeat([]impl.RulRule{good}, many), at, bad)
					for _, in := range ends {
						if impl.RulMay(list, in, end(104, 25)) || impl.RulMay(list, in, end(100, 1)) || wantMay(list, in, end(104, 25)) {
							t.Fatalf("%v may by %v", in, list)
						}
					}
				}
			}
		}
	}
}

// Ends that are not inside and not outside may not, by whatever rules, and without any.
func TestRulMayOfEndsElsewhere(t *testing.T) {
	lists := [][]impl.RulRule{nil, {middleRule(true)}, {rule(true, 1, 9, 100, 109, 1, 999)}, {rule(false, 9, 9, 109, 109, 999, 999)}, slices.Repeat([]impl.RulRule{rule(true, 1, 9, 100, 109, 1, 999)}, 5)}
	var notOutside []impl.EndPoint
	for _, e := range slices.Concat(noEnds(), insides(), []impl.EndPoint{end(50, 1), end(50, 21), end(50, 500), end(50, 999), end(104, 0), end(104, 1000), end(104, -25), end(104, 1<<32+25)}) {
		if wantSide(e.Addr) != outside || !wantEnd(e) {
			notOutside = append(notOutside, e)
		}
	}
	for _, list := range lists {
		for _, in := range slices.Concat(notInside(), noEnds(), outsides()) {
			if impl.RulMay(list, in, end(104, 25)) {
				t.Fatalf("%v, which is not inside, may by %v", in, list)
			}
		}
		for _, out := range notOutside {
			if impl.RulMay(list, end(4, 7), out) {
				t.Fatalf("%v, which is not outside, may by %v", out, list)
			}
			if impl.RulMay(list, out, out) || impl.RulMay(list, end(104, 25), out) {
				t.Fatalf("%v and who is not inside may by %v", out, list)
			}
		}
	}
}

// someRule is a rule, mostly ok, mostly of few addresses and ports, so that it is about some ends and not about others.
func someRule(r *rand.Rand) impl.RulRule {
	in, out, port := 1+r.Intn(9), 100+r.Intn(10), 1+r.Intn(40)
	x := rule(r.Intn(2) == 0, in, min(9, in+r.Intn(7)), out, min(109, out+r.Intn(8)), port, port+r.Intn(40))
	if r.Intn(40) == 0 {
		x = withBound(x, r.Intn(6), strange()[r.Intn(len(strange()))])
	}
	return x
}

// Promises 36, 66 and 84, of many lists and ends.
func TestRulMayOfManyLists(t *testing.T) {
	r := rand.New(rand.NewSource(36))
	var may, mayNot int
	for range 100000 {
		var list []impl.RulRule
		for range r.Intn(7) {
			list = append(list, someRule(r))
		}
		in, out := end(1+r.Intn(9), 1+r.Intn(999)), end(100+r.Intn(10), 1+r.Intn(60))
		checkMay(t, list, in, out)
		if impl.RulMay(list, in, out) {
			may++
		} else {
			mayNot++
		}
	}
	if may < 20000 || mayNot < 20000 {
		t.Fatal(may, mayNot)
	}
}

func TestRulTextByHand(t *testing.T) {
	for text, r := range map[string]impl.RulRule{
		"deny 1 2 100 100 21 21":   rule(false, 1, 2, 100, 100, 21, 21),
		"allow 1 9 100 109 1 999":  rule(true, 1, 9, 100, 109, 1, 999),
		"deny 2 2 100 100 1 999":   rule(false, 2, 2, 100, 100, 1, 999),
		"allow 9 9 109 109 10 100": rule(true, 9, 9, 109, 109, 10, 100),
		"deny 3 5 102 106 20 30":   middleRule(false),
		"allow 3 5 102 106 20 30":  middleRule(true),
	} {
		if got := impl.RulText(r); got != text {
			t.Errorf("RulText(%v) = %q", r, got)
		}
		if got, ok := impl.RulRead(text); !ok || got != r {
			t.Errorf("RulRead(%q) = %v, %v", text, got, ok)
		}
	}
}

// Promise 35, of rules of all addresses, and of ports of each number of digits; no two have one text.
func TestRulReadOfEachRulText(t *testing.T) {
	ports := [][2]int{{1, 1}, {1, 9}, {9, 10}, {10, 99}, {21, 21}, {99, 100}, {100, 999}, {1, 999}, {999, 999}}
	texts := map[string]bool{}
	many := 0
	for in := 1; in <= 9; in++ {
		for inTo := in; inTo <= 9; inTo++ {
			for out := 100; out <= 109; out++ {
				for outTo := out; outTo <= 109; outTo++ {
					for _, port := range ports {
						many += 2
						for _, allow := range []bool{true, false} {
							r := rule(allow, in, inTo, out, outTo, port[0], port[1])
							checkWritten(t, r)
							texts[impl.RulText(r)] = true
						}
					}
				}
			}
		}
	}
	for _, r := range okRules() {
		checkWritten(t, r)
	}
	if len(texts) != many {
		t.Fatalf("%d rules have %d texts", many, len(texts))
	}
}

// checkWritten asks how a rule that is ok is written, and that it is read again.
func checkWritten(t *testing.T, r impl.RulRule) {
	t.Helper()
	s := impl.RulText(r)
	if s != wantRuleText(r) {
		t.Fatalf("RulText(%v) = %q", r, s)
	}
	if got, ok := impl.RulRead(s); !ok || got != r {
		t.Fatalf("RulRead(%q) = %v, %v", s, got, ok)
	}
}

// A rule that is not ok has no text, and what would be its text is none.
func TestRulTextOfWhatIsNoRule(t *testing.T) {
	for _, r := range noRules() {
		if s := impl.RulText(r); s != "" {
			t.Errorf("RulText(%v) = %q", r, s)
		}
		checkNoRule(t, wantRuleText(r))
	}
	checkNoRule(t, "")
}

func TestRulReadOfTextsThatAreNone(t *testing.T) {
	for _, s := range []string{
		"", " ", "allow", "deny", "allow ", "deny ", "3 5 102 106 20 30", " 3 5 102 106 20 30", "6 3 5 102 106 20 30",
		"allow 3 5 102 106 20", "allow 3 5 102 106 20 ", "allow 3 5 102 106 20 30 ", "allow 3 5 102 106 20 30 30", "allow 3 5 102 106 20 30 x",
		"allow 3 5 102 106 20 30 allow", "allow 3 5 102 106 20 30;", "allow 3 5 102 106 20 30\n", "allow 3 5 102 106 20 30\x00", "allow 3 5 102 106 20 30 allow 3 5 102 106 20 30",
		" allow 3 5 102 106 20 30", "allow  3 5 102 106 20 30", "allow 3  5 102 106 20 30", "allow 3 5 102 106 20  30", "\tallow 3 5 102 106 20 30", "allow\t3 5 102 106 20 30", "allow 3\t5 102 106 20 30", "allow 3\u00a05 102 106 20 30",
		"Allow 3 5 102 106 20 30", "ALLOW 3 5 102 106 20 30", "allows 3 5 102 106 20 30", "allo 3 5 102 106 20 30", "allowdeny 3 5 102 106 20 30", "denyallow 3 5 102 106 20 30", "allow deny 3 5 102 106 20 30", "deny allow 3 5 102 106 20 30",
		"denied 3 5 102 106 20 30", "Deny 3 5 102 106 20 30", "den 3 5 102 106 20 30", "deny3 5 102 106 20 30", "allow3 5 102 106 20 30", "none 3 5 102 106 20 30", "true 3 5 102 106 20 30", "port 3 5 102 106 20 30", "1 3 5 102 106 20 30", "\xef\xbb\xbfallow 3 5 102 106 20 30",
		"allow 3,5,102,106,20,30", "allow 3-5 102-106 20-30", "allow 102 106 3 5 20 30", "allow 20 30 3 5 102 106", "allow three 5 102 106 20 30", "allow 3 5 102 106 0x14 30", "allow 3 5 102 106 2e1 30", "allow 3 5 102 106 20.0 30", "allow 3 5 1_02 106 20 30", "allow 3 5 102 106 20 \uff13\uff10", "allow \u0663 5 102 106 20 30",
		"deny 2 1 100 100 1 1", "deny 1 1 101 100 1 1", "deny 1 1 100 100 2 1", "deny 1 1 100 100 10 9", "deny 1 1 100 100 100 99", "deny 1 1 100 100 999 1", "deny 9 1 109 100 999 1",
		"deny 0 1 100 100 1 1", "deny 1 10 100 100 1 1", "deny 1 1 99 100 1 1", "deny 1 1 100 110 1 1", "deny 1 1 100 100 0 1", "deny 1 1 100 100 1 1000", "deny 0 0 0 0 0 0", "allow 0 0 0 0 0 0", "deny 50 50 50 50 1 1", "deny 1 1 50 50 1 1",
	} {
		checkNoRule(t, s)
		if _, good := wantRule(s); good {
			t.Errorf("%q is a rule", s)
		}
	}
}

// Each number of a rule's text written in another way, or beyond its bound, or as long as a number goes, and longer.
func TestRulReadOfNumbersThatAreNone(t *testing.T) {
	plain := strings.Split("allow 3 5 102 106 20 30", " ")
	for k := 1; k < len(plain); k++ {
		n := plain[k]
		for _, bad := range []string{
			"", " ", "0" + n, "00" + n, "+" + n, "-" + n, "+-" + n, n + ".", n + ".0", "." + n, n + "_", "_" + n, n + "e0", n + "x", "x" + n, "\"" + n + "\"", n + "\x00", n + "\n",
			"0", "-0", "+0", "00", "-1", "10", "50", "99", "110", "1000", "-9223372036854775808", "-9223372036854775809",
			"4294967296", "4294967299", "4294967398", "9223372036854775807", "9223372036854775808", "18446744073709551616", "1844674407370955161" + n, "18446744073709551619", "18446744073709551718", "18446744073709551636",
			strings.Repeat("0", 1000) + n, strings.Repeat("9", 1000), n + strings.Repeat("0", 1000), strings.Repeat(n, 100000),
		} {
			words := slices.Clone(plain)
			words[k] = bad
			s := strings.Join(words, " ")
			if _, good := wantRule(s); good {
				// What is beyond one bound may be within another one.
				checkRuleText(t, s)
				continue
			}
			checkNoRule(t, s)
		}
	}
}

// Promise 35: texts one byte, or one word, away from a rule's.
func TestRulReadOfTextsCloseToRules(t *testing.T) {
	var read int
	check := func(s string) {
		t.Helper()
		if checkRuleText(t, s) {
			read++
		}
	}
	for _, s := range []string{"allow 3 5 102 106 20 30", "deny 1 9 100 109 1 999", "deny 9 9 109 109 99 100", "allow 1 1 100 100 9 9"} {
		for i := range len(s) + 1 {
			check(s[:i])
			check(s[i:])
			check(s[:i] + s[min(i+1, len(s)):])
			for c := range 256 {
				b := string([]byte{byte(c)})
				check(s[:i] + b + s[i:])
				check(s[:i] + b + s[min(i+1, len(s)):])
			}
		}
		words := strings.Split(s, " ")
		for k := range words {
			check(strings.Join(slices.Delete(slices.Clone(words), k, k+1), " "))
			for _, word := range append(words, "", "1", "100", "allow", "deny") {
				check(strings.Join(slices.Insert(slices.Clone(words), k, word), " "))
				other := slices.Clone(words)
				other[k] = word
				check(strings.Join(other, " "))
			}
		}
	}
	if read < 100 {
		t.Fatal(read)
	}
}

// A text of any length, and of many words, is none.
func TestRulReadOfLongTexts(t *testing.T) {
	for _, s := range []string{"a", " ", "1 ", "allow ", "allow 3 5 102 106 20 30", "allow 3 5 102 106 20 30 ", "\x00", "\xff", "deny 1 9 100 109 1 999\n"} {
		checkNoRule(t, strings.Repeat(s, 20000))
	}
}

// No list that is handed in is turned, nor what is behind its end; and what is behind its end is no rule.
func TestRulMayLeavesItsRulesAsTheyAre(t *testing.T) {
	in, out := end(3, 7), end(102, 20)
	eachList(aboutKinds(), 3, func(list []impl.RulRule) {
		for _, behind := range []impl.RulRule{rule(false, 1, 9, 100, 109, 1, 999), rule(true, 1, 9, 100, 109, 1, 999), {}} {
			roomy := append(make([]impl.RulRule, 0, len(list)+8), list...)
			all := roomy[:cap(roomy)]
			for k := len(list); k < len(all); k++ {
				all[k] = behind
			}
			before := slices.Clone(all)
			got := impl.RulMay(roomy, in, out)
			impl.RulMay(roomy, out, in)
			impl.RulMay(all, in, out)
			if !slices.Equal(all, before) {
				t.Fatalf("%v became %v", before, all)
			}
			if got != wantMay(list, in, out) {
				t.Fatalf("RulMay(%v, %v, %v) = %v, with %v behind it", list, in, out, got, behind)
			}
		}
	})
}

// A list that is written over between two calls is asked anew.
func TestRulMayKeepsNothing(t *testing.T) {
	in, out := end(3, 7), end(102, 20)
	list := make([]impl.RulRule, 3)
	for _, a := range aboutKinds() {
		for _, b := range append(aboutKinds(), impl.RulRule{}) {
			list[0], list[1], list[2] = a, b, turned(a)
			checkMay(t, list, in, out)
			checkMay(t, list[1:], in, out)
			checkMay(t, list[:1], in, out)
			checkMay(t, list[:0], in, out)
		}
	}
}
