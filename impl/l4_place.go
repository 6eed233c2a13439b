package impl

// PosSpan is a line's bytes inside, and its bytes outside; each from where to where, and whether they are the same.
type PosSpan struct {
	From  int
	To    int
	OutAt int
	OutTo int
	Plain bool
}

// PosPairs is the spans of a stream's lines, and of as many of another one.
func PosPairs(s string, far string) []PosSpan {
	return nil
}

// PosSpans is the spans of a stream's lines, as they go outside by a table.
func PosSpans(t MapTab, s string) []PosSpan {
	return nil
}

// PosOut is where outside the line begins in which a byte inside stands; behind all lines, if it stands behind them.
func PosOut(t MapTab, s string, at int) int {
	return 0
}

// PosBack is up to where inside all is there, if outside all up to a place is.
func PosBack(t MapTab, s string, far int) int {
	return 0
}

// PosThere is up to where of a stream all is there, if of what it is on the other side all up to a place is.
func PosThere(s string, far string, at int) int {
	return 0
}
