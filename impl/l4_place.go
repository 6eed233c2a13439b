package impl

import "sort"

// PosSpan is a line's bytes inside, and its bytes outside; each from where to where, and whether they are the same.
type PosSpan struct {
	From  int
	To    int
	OutAt int
	OutTo int
	Plain bool
}

// spanList is spans in order: on both sides each begins where the one ahead of it ends. So places can be searched for by halves.
type spanList []PosSpan

// PosPairs is the spans of a stream's lines, and of as many of another one.
func PosPairs(s string, far string) []PosSpan {
	lines, _ := StrLines(s)
	fars, _ := StrLines(far)
	var spans spanList
	for k := range min(len(lines), len(fars)) {
		spans = spans.with(lines[k], fars[k])
	}
	return spans
}

// PosSpans is the spans of a stream's lines, as they go outside by a table.
func PosSpans(t MapTab, s string) []PosSpan {
	// Of what is not ok nothing goes outside, and so no line has one beside it.
	_, far := RwrStream(t, s)
	return PosPairs(s, far)
}

// PosOut is where outside the line begins in which a byte inside stands; behind all lines, if it stands behind them.
func PosOut(t MapTab, s string, at int) int {
	return spanList(PosSpans(t, s)).out(at)
}

// PosBack is up to where inside all is there, if outside all up to a place is.
func PosBack(t MapTab, s string, far int) int {
	return spanList(PosSpans(t, s)).there(far)
}

// PosThere is up to where of a stream all is there, if of what it is on the other side all up to a place is.
func PosThere(s string, far string, at int) int {
	return spanList(PosPairs(s, far)).there(at)
}

// with is the spans, and one more behind them: of a line, and of what it is on the other side.
func (l spanList) with(line, far string) spanList {
	last := l.last()
	return append(l, PosSpan{
		From:  last.To,
		To:    last.To + len(line) + len(lineEnd),
		OutAt: last.OutTo,
		OutTo: last.OutTo + len(far) + len(lineEnd),
		Plain: line == far,
	})
}

// last is the last span; nothing, which ends at 0 on both sides, if there are none.
func (l spanList) last() PosSpan {
	if len(l) == 0 {
		return PosSpan{}
	}
	return l[len(l)-1]
}

// out is where on the other side the line begins in which a byte stands; behind all lines, if it stands behind them.
func (l spanList) out(at int) int {
	k := sort.Search(len(l), func(k int) bool { return at < l[k].To })
	if k == len(l) {
		return l.last().OutTo
	}
	return l[k].OutAt
}

// there is up to where all is there, if on the other side all up to a place is.
func (l spanList) there(place int) int {
	k := sort.Search(len(l), func(k int) bool { return place < l[k].OutTo })
	if k == len(l) {
		return l.last().To
	}
	span := l[k]
	// A part of a line that is another one there says nothing of how much of this one is there; and a place below 0 is in none.
	if !span.Plain || place <= span.OutAt {
		return span.From
	}
	return span.From + place - span.OutAt
}
