package impl

import (
	"errors"
	"strconv"
	"strings"
)

// EndBox is the box's address outside, EndIn the greatest one inside, EndOut the least and EndLast the greatest outside, EndPort the greatest port.
const (
	EndIn   = 9
	EndBox  = 50
	EndOut  = 100
	EndLast = 109
	EndPort = 999
)

var (
	errNoNumber = errors.New("no number as it is written")
	errNoEnd    = errors.New("no end")
)

// EndPoint is an address and a port. It holds nothing but these, so that it can be a key.
type EndPoint struct {
	Addr int
	Port int
}

// EndInside says whether an end is inside.
func EndInside(e EndPoint) bool {
	return within(e.Addr, 1, EndIn) && isPort(e.Port)
}

// EndOutside says whether an end is outside.
func EndOutside(e EndPoint) bool {
	return within(e.Addr, EndOut, EndLast) && isPort(e.Port)
}

// EndOk says whether something is an end: inside, outside, or the box's.
func EndOk(e EndPoint) bool {
	return EndInside(e) || EndOutside(e) || isBox(e)
}

// EndText writes an end.
func EndText(e EndPoint) string {
	if !EndOk(e) {
		return ""
	}
	return strconv.Itoa(e.Addr) + " " + strconv.Itoa(e.Port)
}

// EndRead reads an end.
func EndRead(s string) (EndPoint, bool) {
	e, err := readEnd(s)
	return e, err == nil
}

// isBox says whether an end is the box's.
func isBox(e EndPoint) bool {
	return e.Addr == EndBox && isPort(e.Port)
}

// boxAt is the box's end with a port.
func boxAt(port int) EndPoint {
	return EndPoint{Addr: EndBox, Port: port}
}

// isPort says whether a number is a port.
func isPort(n int) bool {
	return within(n, 1, EndPort)
}

// within says whether a number is in a range, its bounds in it.
func within(n, from, to int) bool {
	return from <= n && n <= to
}

// readEnd is the end that a text is; nothing beside an error.
func readEnd(s string) (EndPoint, error) {
	// Without a space the port's text is empty, and so no number.
	addrText, portText, _ := strings.Cut(s, " ")
	addr, err := readNumber(addrText)
	if err != nil {
		return EndPoint{}, err
	}
	port, err := readNumber(portText)
	if err != nil {
		return EndPoint{}, err
	}
	e := EndPoint{Addr: addr, Port: port}
	if !EndOk(e) {
		return EndPoint{}, errNoEnd
	}
	return e, nil
}

// readNumber is the number that a text is; 0 beside an error.
func readNumber(s string) (int, error) {
	n, err := strconv.Atoi(s)
	// Atoi takes a plus sign and needless noughts, too: only what is written back the same was written plainly.
	if err != nil || strconv.Itoa(n) != s {
		return 0, errNoNumber
	}
	return n, nil
}
