package tests

import (
	"bytes"
	"math"
	"math/big"
	"math/rand"
	"regexp"
	"slices"
	"strings"
	"testing"

	"loop.example/hatchway/impl"
)

var segForm = regexp.MustCompile(`\A[a-z0-9 ;]{0,12}\z`)

// manyBytes is as many bytes as a text that is cut may have; no two pieces of it that are cut from the beginning on are the same.
var manyBytes = strings.Repeat("port 50 500;the quick;brown fox;0123456789;", 6)[:240]

func seg(src, dst impl.EndPoint, seq, ack int, data string) impl.SegSeg {
	return impl.SegSeg{Src: src, Dst: dst, Seq: seq, Ack: ack, Data: data}
}

// plainSeg is a segment from inside to outside with some bytes.
func plainSeg(data string) impl.SegSeg {
	return seg(end(1, 7), end(100, 21), 3, 4, data)
}

func wantEnd(e impl.EndPoint) bool {
	return wantSide(e.Addr) != nowhere && e.Port >= 1 && e.Port <= 999
}

// wantSegOk is SegOk, asked part by part.
func wantSegOk(s impl.SegSeg) bool {
	return wantEnd(s.Src) && wantEnd(s.Dst) && s.Seq >= 0 && s.Seq <= 240 && s.Ack >= 0 && s.Ack <= 240 && segForm.MatchString(s.Data)
}

// wantSum is SegSum by one number that is as great as it gets.
func wantSum(b []byte) int {
	all := big.NewInt(1)
	for _, c := range b {
		all.Mul(all, big.NewInt(257))
		all.Add(all, big.NewInt(int64(c)))
	}
	return int(all.Mod(all, big.NewInt(65521)).Int64())
}

// sealed is any bytes with their sum behind them.
func sealed(b []byte) []byte {
	sum := wantSum(b)
	return slices.Concat(b, []byte{byte(sum / 256), byte(sum % 256)})
}

// unsealed is what stands ahead of the sum, of any numbers, any data, and any number of these.
func unsealed(s impl.SegSeg, many int) []byte {
	var b []byte
	for _, n := range []int{s.Src.Addr, s.Src.Port, s.Dst.Addr, s.Dst.Port, s.Seq, s.Ack} {
		b = append(b, byte(n/256), byte(n%256))
	}
	return append(append(b, byte(many)), s.Data...)
}

// wantBytes is SegBytes of a segment that is ok.
func wantBytes(s impl.SegSeg) []byte {
	return sealed(unsealed(s, len(s.Data)))
}

// wantSeg is SegRead of any bytes: each number by its place, and then held against what these would be written as.
func wantSeg(b []byte) (impl.SegSeg, bool) {
	if len(b) < 15 {
		return impl.SegSeg{}, false
	}
	word := func(at int) int { return int(b[at])*256 + int(b[at+1]) }
	s := seg(end(word(0), word(2)), end(word(4), word(6)), word(8), word(10), string(b[13:len(b)-2]))
	if !wantSegOk(s) || !bytes.Equal(wantBytes(s), b) {
		return impl.SegSeg{}, false
	}
	return s, true
}

// someEnds is an end at each edge of each side, and one whose port takes both bytes.
func someEnds() []impl.EndPoint {
	return []impl.EndPoint{end(1, 1), end(9, 999), end(2, 256), end(50, 1), end(50, 500), end(50, 999), end(100, 21), end(109, 999), end(100, 255)}
}

// noEnds is what is no end, also by a number that two bytes can't hold.
func noEnds() []impl.EndPoint {
	list := []impl.EndPoint{end(1+1<<16, 7), end(1, 7+1<<16), end(1<<8, 1<<8), end(1, 1000), end(1, 1001), end(1, 65535), end(65535, 1)}
	for _, e := range notInside() {
		if !wantEnd(e) {
			list = append(list, e)
		}
	}
	return list
}

// okPlaces is places at both ends of their bounds, and within.
func okPlaces() []int {
	return []int{0, 1, 2, 119, 120, 121, 239, 240}
}

// noPlaces is numbers that are none.
func noPlaces() []int {
	return []int{math.MinInt, -1 << 32, -256, -2, -1, 241, 242, 255, 256, 1000, 32768, 65535, 65536, 65536 + 3, 1<<32 + 3, math.MaxInt}
}

// okDatas is bytes of each length that a segment may have, and pieces of streams, cut anywhere.
func okDatas() []string {
	list := []string{"port 2 3;", "ort 50 501;h", ";;;;;;;;;;;;", " ", ";", "a;", ";a", "port 2 3;hi;", "z09 ;z90 ;az", "            ", "999999999999"}
	for n := range impl.SegMax + 1 {
		list = append(list, manyBytes[:n], manyBytes[40:40+n])
	}
	return list
}

// okSegs is segments that are ok, each part at its edges.
func okSegs() []impl.SegSeg {
	var list []impl.SegSeg
	for _, src := range someEnds() {
		for _, dst := range someEnds() {
			list = append(list, seg(src, dst, 0, 0, ""), seg(src, dst, 3, 240, "port 2;"))
		}
	}
	for _, seq := range okPlaces() {
		for _, ack := range okPlaces() {
			list = append(list, seg(end(9, 999), end(100, 21), seq, ack, "hi;"), seg(end(100, 21), end(50, 500), seq, ack, ""))
		}
	}
	for _, data := range okDatas() {
		list = append(list, plainSeg(data), seg(end(50, 505), end(109, 999), 240, 240, data))
	}
	return list
}

// noSegs is segments that are not ok for one part alone.
func noSegs() []impl.SegSeg {
	list := []impl.SegSeg{{}, seg(end(1, 7), end(100, 21), -1, 241, "A")}
	for _, e := range noEnds() {
		list = append(list, seg(e, end(100, 21), 3, 4, "hi;"), seg(end(1, 7), e, 3, 4, "hi;"), seg(e, e, 3, 4, ""))
	}
	for _, n := range noPlaces() {
		list = append(list, seg(end(1, 7), end(100, 21), n, 4, "hi;"), seg(end(1, 7), end(100, 21), 3, n, "hi;"), seg(end(1, 7), end(100, 21), n, n, ""))
	}
	for _, n := range []int{13, 14, 16, 17, 120, 255, 256, 257, 256 + 12, 65536, 1 << 20} {
		list = append(list, plainSeg(strings.Repeat("a", n)), plainSeg(strings.Repeat(";", n)))
	}
	for _, data := range []string{"A", "Port 2;", "\x00", "\xff", "\u00e4", "a\n", "\ta", "a:", "a,b", "+1", "-1", "port_2;", "abcdefghijkL", "Abcdefghijkl", "\xef\xbc\x9b", strings.Repeat("A", 12)} {
		list = append(list, plainSeg(data))
	}
	return list
}

// Promise 64: each part at both ends of its bounds.
func TestSegOk(t *testing.T) {
	for _, s := range okSegs() {
		if !impl.SegOk(s) || !wantSegOk(s) {
			t.Errorf("%v is not ok", s)
		}
	}
	for _, s := range noSegs() {
		if impl.SegOk(s) || wantSegOk(s) {
			t.Errorf("%.200v is ok", s)
		}
	}
}

// Promise 64: each byte that there is, at each place of Data.
func TestSegOkOfEachByte(t *testing.T) {
	const may = "abcdefghijklmnopqrstuvwxyz0123456789 ;"
	for c := range 256 {
		for _, full := range []string{"a", "hi;", ";;;;", "port 2 3;hi;"} {
			for i := range len(full) {
				b := []byte(full)
				b[i] = byte(c)
				s := plainSeg(string(b))
				if got := impl.SegOk(s); got != (strings.IndexByte(may, byte(c)) >= 0) {
					t.Fatalf("SegOk with %q is %v", b, got)
				}
				if n := len(impl.SegBytes(s)); (n != 0) != impl.SegOk(s) {
					t.Fatalf("SegBytes with %q has %d bytes", b, n)
				}
			}
		}
	}
}

// Promise 64: with one byte more than there may be, whichever, none is ok, and nothing is written.
func TestOneByteMoreThanMayBe(t *testing.T) {
	for c := range 256 {
		for _, data := range []string{manyBytes[:12] + string([]byte{byte(c)}), string([]byte{byte(c)}) + manyBytes[:12]} {
			if s := plainSeg(data); impl.SegOk(s) || len(impl.SegBytes(s)) != 0 {
				t.Fatalf("%v is ok", s)
			}
		}
	}
}

func TestSegSumByHand(t *testing.T) {
	for _, c := range []struct {
		b    []byte
		want int
	}{
		{nil, 1},
		{[]byte{}, 1},
		{[]byte{0}, 257},
		{[]byte{1}, 258},
		{[]byte{128}, 385},
		{[]byte{255}, 512},
		{[]byte{0, 0}, 528},
		{[]byte{0, 1}, 529},
		{[]byte{1, 0}, 785},
		{[]byte{252, 228}, 65520},
		{[]byte{252, 229}, 0},
		{[]byte{252, 230}, 1},
		{[]byte{252, 229, 0, 0}, 0},
		{[]byte{252, 229, 0, 7}, 7},
		{[]byte{255, 255}, 797},
	} {
		if got := impl.SegSum(c.b); got != c.want || wantSum(c.b) != c.want {
			t.Errorf("SegSum(%v) = %d", c.b, got)
		}
	}
}

// Promise 29: of each number of bytes, of noughts, of greatest ones, and of any.
func TestSegSumOfManyBytes(t *testing.T) {
	r := rand.New(rand.NewSource(29))
	for n := range 301 {
		some := make([]byte, n)
		r.Read(some)
		for _, b := range [][]byte{make([]byte, n), bytes.Repeat([]byte{255}, n), bytes.Repeat([]byte{1}, n), some} {
			if got := impl.SegSum(b); got != wantSum(b) {
				t.Fatalf("SegSum(%v) = %d, not %d", b, got, wantSum(b))
			}
		}
	}
	least, most := 65521, -1
	for a := range 256 {
		for b := range 256 {
			sum := impl.SegSum([]byte{byte(a), byte(b)})
			least, most = min(least, sum), max(most, sum)
		}
	}
	if least != 0 || most != 65520 {
		t.Fatal(least, most)
	}
	long := impl.SegSum(bytes.Repeat([]byte{255}, 1<<20))
	if long < 0 || long > 65520 {
		t.Fatal(long)
	}
}

// Promise 29: each byte of some turned to each value.
func TestSegSumOfATurnedByte(t *testing.T) {
	r := rand.New(rand.NewSource(30))
	for _, n := range []int{1, 2, 3, 15, 27, 70, 1000} {
		b := make([]byte, n)
		r.Read(b)
		sum := impl.SegSum(b)
		for range min(n, 70) {
			i := r.Intn(n)
			was := b[i]
			for c := range 256 {
				b[i] = byte(c)
				got := impl.SegSum(b)
				if got < 0 || got > 65520 || (got == sum) != (byte(c) == was) {
					t.Fatalf("of %d bytes the one at %d turned from %d to %d: the sum turns from %d to %d", n, i, was, c, sum, got)
				}
			}
			b[i] = was
		}
	}
}

func TestSegBytesByHand(t *testing.T) {
	for _, c := range []struct {
		s    impl.SegSeg
		want []byte
	}{
		{seg(end(1, 7), end(100, 21), 3, 4, "port 2;"), []byte{0, 1, 0, 7, 0, 100, 0, 21, 0, 3, 0, 4, 7, 'p', 'o', 'r', 't', ' ', '2', ';'}},
		{seg(end(50, 500), end(109, 999), 240, 0, ""), []byte{0, 50, 1, 244, 0, 109, 3, 231, 0, 240, 0, 0, 0}},
		{seg(end(9, 256), end(50, 255), 0, 240, "port 50 500;"), []byte{0, 9, 1, 0, 0, 50, 0, 255, 0, 0, 0, 240, 12, 'p', 'o', 'r', 't', ' ', '5', '0', ' ', '5', '0', '0', ';'}},
	} {
		want := sealed(c.want)
		if got := impl.SegBytes(c.s); !bytes.Equal(got, want) || !bytes.Equal(wantBytes(c.s), want) {
			t.Errorf("SegBytes(%v) = %v", c.s, got)
		}
	}
}

// Promises 27, 28 and 83, of segments that are ok.
func TestSegBytesAreReadAsTheSegment(t *testing.T) {
	known := map[string]impl.SegSeg{}
	for _, s := range okSegs() {
		b := impl.SegBytes(s)
		if !bytes.Equal(b, wantBytes(s)) || len(b) != len(s.Data)+15 {
			t.Fatalf("SegBytes(%v) = %v", s, b)
		}
		if got, ok := impl.SegRead(b); !ok || got != s {
			t.Fatalf("SegRead(%v) = %v, %v", b, got, ok)
		}
		if other, again := known[string(b)]; again && other != s {
			t.Fatalf("%v and %v are both %v", s, other, b)
		}
		known[string(b)] = s
	}
}

// Promise 83: segments that differ in one part by as little as may be, or in two parts that are swapped.
func TestSegmentsThatDifferHaveBytesThatDiffer(t *testing.T) {
	for _, s := range okSegs() {
		near := []impl.SegSeg{
			seg(s.Dst, s.Src, s.Seq, s.Ack, s.Data),
			seg(s.Src, s.Dst, s.Ack, s.Seq, s.Data),
			seg(end(s.Src.Addr, s.Src.Port%999+1), s.Dst, s.Seq, s.Ack, s.Data),
			seg(s.Src, end(s.Dst.Addr%9+1, s.Dst.Port), s.Seq, s.Ack, s.Data),
			seg(s.Src, s.Dst, (s.Seq+1)%241, s.Ack, s.Data),
			seg(s.Src, s.Dst, s.Seq, (s.Ack+1)%241, s.Data),
			seg(s.Src, s.Dst, s.Seq, s.Ack, s.Data[:len(s.Data)/2]),
			seg(s.Src, s.Dst, s.Seq, s.Ack, strings.Repeat("q", len(s.Data))),
		}
		if len(s.Data) < 12 {
			near = append(near, seg(s.Src, s.Dst, s.Seq, s.Ack, s.Data+" "))
		}
		b := impl.SegBytes(s)
		for _, x := range near {
			if got := impl.SegBytes(x); bytes.Equal(got, b) != (x == s) || !bytes.Equal(got, wantBytes(x)) {
				t.Fatalf("SegBytes of %v and of %v are %v and %v", s, x, b, got)
			}
		}
	}
}

func TestSegBytesOfWhatIsNoSegment(t *testing.T) {
	for _, s := range noSegs() {
		if b := impl.SegBytes(s); len(b) != 0 {
			t.Errorf("SegBytes(%.200v) = %.200v", s, b)
		}
	}
}

// checkNoSeg asks that bytes are read as nothing.
func checkNoSeg(t *testing.T, b []byte) {
	t.Helper()
	if s, ok := impl.SegRead(b); ok || s != (impl.SegSeg{}) {
		t.Fatalf("SegRead(%.300v) = %v, %v", b, s, ok)
	}
}

// Promise 27: each byte turned to each value, one more of each value, and without the last one, or more of them.
func TestSegReadOfBentAndCutBytes(t *testing.T) {
	for k, s := range okSegs() {
		b := wantBytes(s)
		for c := range 256 {
			checkNoSeg(t, append(slices.Clone(b), byte(c)))
		}
		for n := range len(b) {
			checkNoSeg(t, b[:n])
		}
		for i := range b {
			for c := range 256 {
				if k%7 == 0 && byte(c) != b[i] {
					bent := slices.Clone(b)
					bent[i] = byte(c)
					checkNoSeg(t, bent)
				}
			}
		}
	}
}

// Promise 28: the sum is right, but one of the numbers is none of a segment's.
func TestSegReadOfNumbersThatAreNone(t *testing.T) {
	for _, addr := range []int{0, 10, 11, 49, 51, 99, 110, 255, 256, 257, 50 << 8, 65535} {
		checkNoSeg(t, wantBytes(seg(end(addr, 7), end(100, 21), 3, 4, "hi;")))
		checkNoSeg(t, wantBytes(seg(end(1, 7), end(addr, 21), 3, 4, "hi;")))
	}
	for _, port := range []int{0, 1000, 1001, 1023, 1024, 32768, 65535} {
		checkNoSeg(t, wantBytes(seg(end(1, port), end(100, 21), 3, 4, "hi;")))
		checkNoSeg(t, wantBytes(seg(end(1, 7), end(100, port), 3, 4, "hi;")))
	}
	for _, place := range []int{241, 242, 255, 256, 256 + 3, 32768, 65535} {
		checkNoSeg(t, wantBytes(seg(end(1, 7), end(100, 21), place, 4, "hi;")))
		checkNoSeg(t, wantBytes(seg(end(1, 7), end(100, 21), 3, place, "hi;")))
	}
}

// Promise 28: the sum is right, but a byte of Data may not stand there, or there are too many, or not as many as there are said to be.
func TestSegReadOfDataThatIsNone(t *testing.T) {
	for c := range 256 {
		for i := range 12 {
			b := unsealed(plainSeg(manyBytes[:12]), 12)
			b[13+i] = byte(c)
			s, ok := impl.SegRead(sealed(b))
			want, good := wantSeg(sealed(b))
			if s != want || ok != good || ok != segForm.Match([]byte{byte(c)}) {
				t.Fatalf("SegRead(%v) = %v, %v", sealed(b), s, ok)
			}
		}
	}
	for n := range 300 {
		s := plainSeg(strings.Repeat("a", n))
		for many := range 256 {
			b := sealed(unsealed(s, many))
			if got, ok := impl.SegRead(b); ok != (many == n && n <= 12) || ok && got != s {
				t.Fatalf("SegRead(%.300v) = %v, %v", b, got, ok)
			}
		}
	}
}

// Promise 28: what is right up to its sum is none, if anything is behind that, be it a sum, too, or all of it once more.
func TestSegReadOfWhatIsBehindASegment(t *testing.T) {
	for _, s := range okSegs() {
		b := wantBytes(s)
		checkNoSeg(t, sealed(b))
		checkNoSeg(t, slices.Concat(b, b))
		checkNoSeg(t, slices.Concat(b, make([]byte, 1000)))
		checkNoSeg(t, slices.Concat([]byte{0}, b))
		checkNoSeg(t, sealed(append(unsealed(s, len(s.Data)), 0)))
		if len(s.Data) > 0 {
			checkNoSeg(t, sealed(unsealed(s, len(s.Data)-1)))
		}
	}
}

// Bytes of any number, and none: noughts, greatest ones, and such with their sum behind them.
func TestSegReadOfAnyNumberOfBytes(t *testing.T) {
	checkNoSeg(t, nil)
	for n := range 300 {
		for _, c := range []byte{0, 1, 7, 50, 'a', ';', 255} {
			b := bytes.Repeat([]byte{c}, n)
			checkNoSeg(t, b)
			checkNoSeg(t, sealed(b))
		}
	}
	checkNoSeg(t, make([]byte, 1<<20))
	checkNoSeg(t, append(wantBytes(plainSeg("hi;")), make([]byte, 1<<20)...))
}

// Promises 27 and 28, of segments whose bytes were turned, left out, or put in by chance, the sum put right behind some of that.
func TestSegReadOfWhatCameAbout(t *testing.T) {
	r := rand.New(rand.NewSource(28))
	all := okSegs()
	read := 0
	for range 60000 {
		s := all[r.Intn(len(all))]
		b := unsealed(s, len(s.Data))
		for range r.Intn(3) {
			i := r.Intn(len(b))
			switch r.Intn(4) {
			case 0:
				b = slices.Insert(b, i, byte(r.Intn(256)))
			case 1:
				b = slices.Delete(b, i, i+1)
			case 2:
				b[i] = byte(r.Intn(256))
			case 3:
				b[i] ^= 1 << r.Intn(8)
			}
		}
		if b = sealed(b); r.Intn(4) == 0 {
			b[r.Intn(len(b))]++
		}
		want, good := wantSeg(b)
		got, ok := impl.SegRead(b)
		if got != want || ok != good {
			t.Fatalf("SegRead(%v) = %v, %v", b, got, ok)
		}
		if ok {
			read++
			if !impl.SegOk(got) || !bytes.Equal(impl.SegBytes(got), b) {
				t.Fatalf("%v is read as %v", b, got)
			}
		}
	}
	if read < 10000 || read > 50000 {
		t.Fatal(read)
	}
}

// wantCut is SegCut, byte by byte.
func wantCut(s impl.SegSeg, far string, at int) []impl.SegSeg {
	if !wantSegOk(s) || len(far) > 240 || at < 0 {
		return nil
	}
	list := []impl.SegSeg{seg(s.Src, s.Dst, min(at, len(far)), s.Ack, "")}
	for i := at; i < len(far); i++ {
		if len(list[len(list)-1].Data) == 12 {
			list = append(list, seg(s.Src, s.Dst, i, s.Ack, ""))
		}
		list[len(list)-1].Data += far[i : i+1]
	}
	return list
}

// checkCut is promise 33 of a segment that is ok, a text, and a place that is not below 0.
func checkCut(t *testing.T, s impl.SegSeg, far string, at int) {
	t.Helper()
	list := impl.SegCut(s, far, at)
	if !slices.Equal(list, wantCut(s, far, at)) || len(list) == 0 {
		t.Fatalf("SegCut(%v, %q, %d) = %v", s, far, at, list)
	}
	next := min(at, len(far))
	all := ""
	for k, x := range list {
		if !impl.SegOk(x) || x.Src != s.Src || x.Dst != s.Dst || x.Ack != s.Ack || x.Seq != next {
			t.Fatalf("SegCut(%v, %q, %d) has %v at %d", s, far, at, x, k)
		}
		if len(x.Data) != 12 && k != len(list)-1 || x.Data == "" && (len(list) != 1 || at < len(far)) {
			t.Fatalf("SegCut(%v, %q, %d) has %v at %d", s, far, at, x, k)
		}
		next += len(x.Data)
		all += x.Data
	}
	if all != far[min(at, len(far)):] {
		t.Fatalf("SegCut(%v, %q, %d) is all %q", s, far, at, all)
	}
}

func TestSegCutByHand(t *testing.T) {
	s := seg(end(50, 500), end(100, 21), 200, 9, "port 2;")
	like := func(seq int, data string) impl.SegSeg { return seg(end(50, 500), end(100, 21), seq, 9, data) }
	for _, c := range []struct {
		far  string
		at   int
		want []impl.SegSeg
	}{
		{"", 0, []impl.SegSeg{like(0, "")}},
		{"", 7, []impl.SegSeg{like(0, "")}},
		{"a", 0, []impl.SegSeg{like(0, "a")}},
		{"a", 1, []impl.SegSeg{like(1, "")}},
		{"a", 2, []impl.SegSeg{like(1, "")}},
		{"abcdefghijk", 0, []impl.SegSeg{like(0, "abcdefghijk")}},
		{"abcdefghijkl", 0, []impl.SegSeg{like(0, "abcdefghijkl")}},
		{"abcdefghijklm", 0, []impl.SegSeg{like(0, "abcdefghijkl"), like(12, "m")}},
		{"abcdefghijklm", 1, []impl.SegSeg{like(1, "bcdefghijklm")}},
		{"abcdefghijklm", 12, []impl.SegSeg{like(12, "m")}},
		{"abcdefghijklm", 13, []impl.SegSeg{like(13, "")}},
		{"abcdefghijklmnopqrstuvwx", 0, []impl.SegSeg{like(0, "abcdefghijkl"), like(12, "mnopqrstuvwx")}},
		{"abcdefghijklmnopqrstuvwxy", 0, []impl.SegSeg{like(0, "abcdefghijkl"), like(12, "mnopqrstuvwx"), like(24, "y")}},
		{"hi;port 50 501;bye;", 3, []impl.SegSeg{like(3, "port 50 501;"), like(15, "bye;")}},
		{"hi;port 50 501;bye;", math.MaxInt, []impl.SegSeg{like(19, "")}},
	} {
		if got := impl.SegCut(s, c.far, c.at); !slices.Equal(got, c.want) {
			t.Errorf("SegCut of %q from %d on is %v", c.far, c.at, got)
		}
		checkCut(t, s, c.far, c.at)
	}
}

// Promise 33: a text of each length that may be, from each place on, and from past its end.
func TestSegCutOfEachLength(t *testing.T) {
	s := seg(end(50, 500), end(100, 21), 7, 9, "port 2;")
	for n := range 241 {
		for at := range n + 3 {
			checkCut(t, s, manyBytes[:n], at)
		}
		for _, at := range []int{n + 12, n + 13, 240, 241, 252, 1000, 1 << 32, math.MaxInt - 12, math.MaxInt - 1, math.MaxInt} {
			checkCut(t, s, manyBytes[:n], at)
		}
	}
}

// Promise 33: segments like each one that is ok, whatever bytes and place it has itself.
func TestSegCutIsLikeTheSegment(t *testing.T) {
	for _, s := range okSegs() {
		for _, c := range [][2]int{{0, 0}, {5, 0}, {12, 0}, {13, 0}, {36, 12}, {240, 0}, {240, 239}, {240, 240}, {240, 241}} {
			checkCut(t, s, manyBytes[:c[0]], c[1])
		}
	}
}

func TestSegCutOfWhatIsNotOk(t *testing.T) {
	check := func(s impl.SegSeg, far string, at int) {
		t.Helper()
		if list := impl.SegCut(s, far, at); len(list) != 0 {
			t.Fatalf("SegCut(%.200v, %.60q, %d) = %v", s, far, at, list)
		}
	}
	for _, s := range noSegs() {
		for _, far := range []string{"", "hi;", manyBytes} {
			check(s, far, 0)
			check(s, far, 3)
			check(s, far, -1)
		}
	}
	for _, s := range []impl.SegSeg{plainSeg(""), plainSeg("hi;"), plainSeg(manyBytes[:12])} {
		for _, far := range []string{"", "hi;", manyBytes[:12], manyBytes} {
			for _, at := range []int{-1, -2, -12, -240, -1000, -1 << 32, math.MinInt + 1, math.MinInt} {
				check(s, far, at)
			}
		}
		for _, n := range []int{241, 242, 252, 480, 1 << 20} {
			for _, at := range []int{-1, 0, 1, 12, 240, n - 1, n, n + 1, math.MaxInt} {
				check(s, strings.Repeat("a", n), at)
			}
		}
	}
}

// The document asks of the text that is cut for no more than its length.
func TestSegCutOfAnyText(t *testing.T) {
	const far = "A\x00\xff;\u00e4 Port\n+-\xc3"
	list := impl.SegCut(plainSeg("hi;"), far, 1)
	if !slices.Equal(list, wantCut(plainSeg("hi;"), far, 1)) || len(list) != 2 {
		t.Fatal(list)
	}
}

// wantAdd is SegAdd, byte by byte.
func wantAdd(known string, s impl.SegSeg) string {
	if s.Seq < 0 || s.Seq > len(known) {
		return known
	}
	all := []byte(known)
	for i := range len(s.Data) {
		if s.Seq+i == len(all) {
			all = append(all, s.Data[i])
		}
	}
	return string(all)
}

// checkAdd is promise 34 of a text and a segment.
func checkAdd(t *testing.T, known string, s impl.SegSeg) {
	t.Helper()
	got := impl.SegAdd(known, s)
	if got != wantAdd(known, s) || !strings.HasPrefix(got, known) {
		t.Fatalf("SegAdd(%.300q, %.300v) = %.300q", known, s, got)
	}
	grows := s.Seq >= 0 && s.Seq <= len(known) && s.Seq+len(s.Data) > len(known)
	if (got != known) != grows || grows && (len(got) != s.Seq+len(s.Data) || got[len(known):] != s.Data[len(known)-s.Seq:]) {
		t.Fatalf("SegAdd(%.300q, %.300v) = %.300q", known, s, got)
	}
	if again := impl.SegAdd(got, s); again != got {
		t.Fatalf("SegAdd(%.300q, %.300v) = %.300q, and once more %.300q", known, s, got, again)
	}
}

func TestSegAddByHand(t *testing.T) {
	for _, c := range []struct {
		known string
		seq   int
		data  string
		want  string
	}{
		{"", 0, "", ""},
		{"", 0, "abc", "abc"},
		{"", 1, "abc", ""},
		{"", -1, "abc", ""},
		{"abc", 3, "", "abc"},
		{"abc", 3, "d", "abcd"},
		{"abc", 3, "defghijklmno", "abcdefghijklmno"},
		{"abc", 4, "ef", "abc"},
		{"abc", 4, "", "abc"},
		{"abc", 2, "cde", "abcde"},
		{"abc", 2, "c", "abc"},
		{"abc", 1, "b", "abc"},
		{"abc", 1, "bc", "abc"},
		{"abc", 1, "bcd", "abcd"},
		{"abc", 0, "ab", "abc"},
		{"abc", 0, "abc", "abc"},
		{"abc", 0, "abcd", "abcd"},
		{"abc", 0, "", "abc"},
		{"abc", 0, "xyzd", "abcd"},
		{"abc", 2, "xde", "abcde"},
		{"abc", -1, "xabcd", "abc"},
		{"abc", -3, "xyzabcdef", "abc"},
		{"abc", math.MinInt, "abcd", "abc"},
		{"abc", math.MaxInt, "abcd", "abc"},
	} {
		s := seg(end(1, 7), end(100, 21), c.seq, 4, c.data)
		if got := impl.SegAdd(c.known, s); got != c.want {
			t.Errorf("SegAdd(%q, %q at %d) = %q", c.known, c.data, c.seq, got)
		}
		checkAdd(t, c.known, s)
	}
}

// Promise 34: a segment of each length at each place, below 0 and past the end, of bytes that go on, and of others.
func TestSegAddAtEachPlace(t *testing.T) {
	for _, n := range []int{0, 1, 2, 3, 11, 12, 13, 24, 25, 119, 120, 121, 239, 240} {
		known := manyBytes[:n]
		for _, at := range places(n + 13) {
			for many := range impl.SegMax + 1 {
				checkAdd(t, known, seg(end(1, 7), end(100, 21), at, 4, strings.Repeat("q", many)))
				if at >= 0 && at <= len(manyBytes)-many {
					checkAdd(t, known, seg(end(1, 7), end(100, 21), at, 4, manyBytes[at:at+many]))
				}
			}
		}
	}
}

// SegAdd is said of any text and any segment: what is not ok is added as what is.
func TestSegAddOfWhatIsNotOk(t *testing.T) {
	for _, known := range []string{"", "abc", "A\x00\xff", "\u00e4", manyBytes, strings.Repeat("a", 1000)} {
		for _, s := range noSegs() {
			checkAdd(t, known, s)
			for _, at := range []int{-1, 0, len(known) - 1, len(known), len(known) + 1} {
				checkAdd(t, known, seg(s.Src, s.Dst, at, s.Ack, s.Data))
			}
		}
	}
	if got := impl.SegAdd("A", seg(end(0, 0), end(0, 0), 1, -1, "B;and all that is behind it")); got != "AB;and all that is behind it" {
		t.Error(got)
	}
}

// added is what is known behind segments, one by one.
func added(known string, list []impl.SegSeg) string {
	for _, s := range list {
		known = impl.SegAdd(known, s)
	}
	return known
}

// checkTogether is promise 65 of a text: in order, each twice, all twice, and in other orders.
func checkTogether(t *testing.T, r *rand.Rand, far string) {
	t.Helper()
	list := impl.SegCut(plainSeg("hi;"), far, 0)
	var each []impl.SegSeg
	for _, s := range list {
		each = append(each, s, s)
	}
	backward := slices.Clone(list)
	slices.Reverse(backward)
	orders := [][]impl.SegSeg{list, each, slices.Concat(list, list), slices.Repeat(backward, len(list))}
	for range 3 {
		mixed := slices.Clone(list)
		r.Shuffle(len(mixed), func(i, k int) { mixed[i], mixed[k] = mixed[k], mixed[i] })
		orders = append(orders, slices.Repeat(mixed, len(list)))
	}
	for _, order := range orders {
		if got := added("", order); got != far {
			t.Fatalf("%q, cut and put together again, is %q", far, got)
		}
		if got := added(far[:len(far)/2], order); got != far {
			t.Fatalf("%q, cut and put together with its first half, is %q", far, got)
		}
	}
}

// Promise 65, of a text of each length.
func TestWhatWasCutIsPutTogetherAgain(t *testing.T) {
	r := rand.New(rand.NewSource(65))
	for n := range 241 {
		checkTogether(t, r, manyBytes[:n])
		checkTogether(t, r, strings.Repeat(";", n))
	}
}

// Promise 65: all orders of a few segments; one round of an order brings as many as come in order from the first one on.
func TestEveryOrderOfAFewSegments(t *testing.T) {
	for n := 0; n <= 60; n += 4 {
		far := manyBytes[:n]
		list := impl.SegCut(plainSeg(""), far, 0)
		for _, order := range ordersOf(len(list)) {
			var mixed []impl.SegSeg
			first := 0
			for _, k := range order {
				mixed = append(mixed, list[k])
				if k == first {
					first++
				}
			}
			want := far[:min(len(far), 12*first)]
			if got := added("", mixed); got != want {
				t.Fatalf("%q in the order %v is %q", far, order, got)
			}
			if got := added("", slices.Repeat(mixed, len(list))); got != far {
				t.Fatalf("%q in the order %v, %d times, is %q", far, order, len(list), got)
			}
		}
	}
}

// ordersOf is all orders of the numbers below one.
func ordersOf(n int) [][]int {
	if n == 0 {
		return [][]int{nil}
	}
	var all [][]int
	for _, order := range ordersOf(n - 1) {
		for i := range n {
			all = append(all, slices.Insert(slices.Clone(order), i, n-1))
		}
	}
	return all
}

// A gap: without one of the segments no byte behind it is known, until it comes.
func TestAGapLetsNothingPass(t *testing.T) {
	for _, n := range []int{1, 12, 13, 24, 100, 240} {
		far := manyBytes[:n]
		list := impl.SegCut(plainSeg(""), far, 0)
		for k, lost := range list {
			got := added("", slices.Concat(list[:k], list[k+1:], list[k+1:]))
			if got != far[:lost.Seq] {
				t.Fatalf("%q without what is at %d is %q", far, lost.Seq, got)
			}
			if got = added(got, slices.Concat([]impl.SegSeg{lost}, list)); got != far {
				t.Fatalf("%q with what is at %d once more is %q", far, lost.Seq, got)
			}
		}
	}
}

// No bytes that are handed in are turned, nor what is behind their end; and what was read stays, whatever becomes of them.
func TestBytesThatAreReadStayAsTheyAre(t *testing.T) {
	inputs := [][]byte{{}, {1, 2, 3}, make([]byte, 300), sealed(wantBytes(plainSeg("hi;")))}
	for _, s := range okSegs() {
		inputs = append(inputs, wantBytes(s))
	}
	for _, b := range inputs {
		roomy := append(make([]byte, 0, len(b)+20), b...)
		all := roomy[:cap(roomy)]
		for i := len(b); i < len(all); i++ {
			all[i] = byte(100 + i)
		}
		before := slices.Clone(all)
		sum := impl.SegSum(roomy)
		s, ok := impl.SegRead(roomy)
		if !bytes.Equal(all, before) {
			t.Fatalf("%v became %v", before, all)
		}
		for i := range all {
			all[i] = 'x'
		}
		if want, good := wantSeg(b); s != want || ok != good || sum != wantSum(b) {
			t.Fatalf("SegRead(%v) = %v, %v", b, s, ok)
		}
	}
}

// turnBytes writes over bytes, and over what room there is behind them, and adds to them.
func turnBytes(b []byte) {
	b = append(b, 'y')
	b = b[:cap(b)]
	for i := range b {
		b[i] = 'x'
	}
}

// turnSegs likewise.
func turnSegs(list []impl.SegSeg) {
	list = append(list, plainSeg("y"))
	list = list[:cap(list)]
	for i := range list {
		list[i] = seg(end(-7, -7), end(-7, -7), -7, -7, "x")
	}
}

// To write to an answer, or to add to it, turns no other one; and what was written does not come again.
func TestSegmentsShareNoMemory(t *testing.T) {
	for _, s := range append(okSegs(), impl.SegSeg{}, plainSeg("A")) {
		var written [][]byte
		var cut [][]impl.SegSeg
		for range 3 {
			written = append(written, impl.SegBytes(s))
			cut = append(cut, impl.SegCut(s, manyBytes, 100), impl.SegCut(s, "hi;", 3))
		}
		for i := range written {
			turnBytes(written[i][:0])
			turnBytes(written[i])
			for k := i + 1; k < len(written); k++ {
				if again := impl.SegBytes(s); !bytes.Equal(written[k], again) || wantSegOk(s) && !bytes.Equal(again, wantBytes(s)) {
					t.Fatalf("SegBytes(%v) became %v", s, written[k])
				}
			}
		}
		for i := range cut {
			turnSegs(cut[i][:0])
			turnSegs(cut[i])
			for k := i + 1; k < len(cut); k++ {
				want := wantCut(s, manyBytes, 100)
				if k%2 == 1 {
					want = wantCut(s, "hi;", 3)
				}
				if !slices.Equal(cut[k], want) {
					t.Fatalf("SegCut like %v became %v", s, cut[k])
				}
			}
		}
	}
}
