package wire_test

import (
	"bytes"
	"fmt"
	"math"
	"math/rand"
	"slices"
	"strings"
	"testing"

	"recycling/api"
	"recycling/wire"
)

// textOf is the encoding of a string, by its definition.
func textOf(s string) []byte {
	return joined(varintOf(uint64(len(s))), []byte(s))
}

// listOf is the encoding of a list, by its definition.
func listOf(l []int) []byte {
	b := varintOf(uint64(len(l)))
	for _, n := range l {
		b = append(b, varintOf(zigzagOf(n))...)
	}
	return b
}

// expectedLength is the length that an encoding begins with, by P6.3 and P6.4.
func expectedLength(b []byte, most int) (uint64, int, api.Errno) {
	u, k, e := expectedUint(b)
	if e == api.OK && (most < 0 || u > uint64(most)) {
		return 0, 0, api.ErrFull
	}
	return u, k, e
}

// expectedText is what TakeText returns, by its promise.
func expectedText(b []byte, most int) (string, int, api.Errno) {
	u, k, e := expectedLength(b, most)
	switch {
	case e != api.OK:
		return "", 0, e
	case u > uint64(len(b)-k):
		return "", 0, api.ErrTruncated
	}
	return string(b[k : k+int(u)]), k + int(u), api.OK
}

// expectedList is what TakeList returns, by its promise.
func expectedList(b []byte, most int) ([]int, int, api.Errno) {
	u, k, e := expectedLength(b, most)
	if e != api.OK {
		return nil, 0, e
	}
	var l []int
	for ; u > 0; u-- {
		n, size, e := expectedInt(b[k:])
		if e != api.OK {
			return nil, 0, e
		}
		l, k = append(l, n), k+size
	}
	return l, k, api.OK
}

// shown is the beginning of a value in a message, since some values are long.
func shown(value any) string {
	text := fmt.Sprintf("%#v", value)
	return text[:min(len(text), 300)]
}

func checkTakeText(t *testing.T, b []byte, most int, want string, wantK int, wantError api.Errno) {
	t.Helper()
	before := bytes.Clone(b)
	if s, k, e := wire.TakeText(b, most); s != want || k != wantK || e != wantError {
		t.Fatalf("TakeText(%s, %d) = %s, %d, %d; want %s, %d, %d", shown(b), most, shown(s), k, e, shown(want), wantK, wantError)
	}
	if !bytes.Equal(b, before) {
		t.Fatalf("TakeText changed %s to %s", shown(before), shown(b))
	}
}

func checkTakeList(t *testing.T, b []byte, most int, want []int, wantK int, wantError api.Errno) {
	t.Helper()
	before := bytes.Clone(b)
	if l, k, e := wire.TakeList(b, most); !slices.Equal(l, want) || k != wantK || e != wantError {
		t.Fatalf("TakeList(%s, %d) = %s, %d, %d; want %s, %d, %d", shown(b), most, shown(l), k, e, shown(want), wantK, wantError)
	}
	if !bytes.Equal(b, before) {
		t.Fatalf("TakeList changed %s to %s", shown(before), shown(b))
	}
}

// checkTakesWithLength fails unless TakeText and TakeList return of b what they promise.
func checkTakesWithLength(t *testing.T, b []byte, most int) {
	t.Helper()
	s, k, e := expectedText(b, most)
	checkTakeText(t, b, most, s, k, e)
	l, k, e := expectedList(b, most)
	checkTakeList(t, b, most, l, k, e)
}

// checkText fails unless encoding is that of s, for both functions.
func checkText(t *testing.T, s string, encoding []byte) {
	t.Helper()
	for _, b := range followers {
		checkPut(t, wire.PutText(b, s), b, encoding)
		for _, most := range []int{len(s), len(s) + 1, math.MaxInt} {
			checkTakeText(t, joined(encoding, b), most, s, len(encoding), api.OK)
		}
		for _, most := range []int{len(s) - 1, -1, math.MinInt} {
			checkTakeText(t, joined(encoding, b), most, "", 0, api.ErrFull)
		}
	}
	for length := range encoding {
		checkTakeText(t, encoding[:length], len(s), "", 0, api.ErrTruncated)
	}
}

// checkList fails unless encoding is that of l, for both functions.
func checkList(t *testing.T, l []int, encoding []byte) {
	t.Helper()
	before := slices.Clone(l)
	for _, b := range followers {
		checkPut(t, wire.PutList(b, l), b, encoding)
		for _, most := range []int{len(l), len(l) + 1, math.MaxInt} {
			checkTakeList(t, joined(encoding, b), most, l, len(encoding), api.OK)
		}
		for _, most := range []int{len(l) - 1, -1, math.MinInt} {
			checkTakeList(t, joined(encoding, b), most, nil, 0, api.ErrFull)
		}
	}
	for length := range encoding {
		checkTakeList(t, encoding[:length], len(l), nil, 0, api.ErrTruncated)
	}
	if !slices.Equal(l, before) {
		t.Fatalf("%v was changed to %v", before, l)
	}
}

func TestTexts(t *testing.T) {
	for s, encoding := range map[string][]byte{
		"": {0}, "a": {1, 97}, "ab": {2, 97, 98}, "\x00": {1, 0}, "\x80\xff": {2, 128, 255}, "é": {2, 195, 169}, "\xff": {1, 255}, "\n": {1, 10}, "\u20ac5": {4, 226, 130, 172, 53},
		strings.Repeat("a", 127): joined([]byte{127}, times(127, 97)), strings.Repeat("b", 128): joined([]byte{128, 1}, times(128, 98)), strings.Repeat("c", 300): joined([]byte{172, 2}, times(300, 99)),
	} {
		checkText(t, s, encoding)
	}
	for c := range 256 {
		s := string([]byte{byte(c)})
		checkText(t, s, textOf(s))
		checkText(t, "x"+s+s, textOf("x"+s+s))
	}
	for _, length := range []int{16383, 16384, 1 << 21} {
		s := strings.Repeat("x", length)
		checkPut(t, wire.PutText([]byte{7}, s), []byte{7}, textOf(s))
		checkTakeText(t, textOf(s), length, s, len(textOf(s)), api.OK)
		checkTakeText(t, textOf(s), length-1, "", 0, api.ErrFull)
		checkTakeText(t, textOf(s)[:length], length, "", 0, api.ErrTruncated)
	}
}

func TestLists(t *testing.T) {
	checkList(t, nil, []byte{0})
	for _, x := range []struct {
		l        []int
		encoding []byte
	}{
		{[]int{}, []byte{0}}, {[]int{0}, []byte{1, 0}}, {[]int{5, -1}, []byte{2, 10, 1}}, {[]int{-1, 5}, []byte{2, 1, 10}}, {[]int{0, 0, 0}, []byte{3, 0, 0, 0}}, {[]int{-65, 1}, []byte{2, 129, 1, 2}}, {[]int{64, -64, 63}, []byte{3, 128, 1, 127, 126}},
		{[]int{math.MinInt, math.MaxInt}, joined([]byte{2}, times(9, 255, 1), []byte{254}, times(8, 255, 1))}, {make([]int, 127), joined([]byte{127}, make([]byte, 127))}, {make([]int, 128), joined([]byte{128, 1}, make([]byte, 128))}, {slices.Repeat([]int{-1}, 300), joined([]byte{172, 2}, times(300, 1))},
	} {
		checkList(t, x.l, x.encoding)
	}
	long := make([]int, 1<<20)
	for i := range long {
		long[i] = i * i * (1 - i%2*2)
	}
	encoding := listOf(long)
	checkPut(t, wire.PutList([]byte{7}, long), []byte{7}, encoding)
	checkTakeList(t, encoding, len(long), long, len(encoding), api.OK)
	checkTakeList(t, encoding[:len(encoding)-1], len(long), nil, 0, api.ErrTruncated)
}

// The form of the length comes before its size, and its size before what follows it.
func TestErrorsOfLengths(t *testing.T) {
	for _, x := range []struct {
		b    []byte
		most int
		want api.Errno
	}{
		{nil, 9, api.ErrTruncated}, {nil, -1, api.ErrTruncated}, {[]byte{128}, 9, api.ErrTruncated}, {[]byte{128}, -1, api.ErrTruncated}, {[]byte{255, 255}, 0, api.ErrTruncated}, {times(9, 255), 0, api.ErrTruncated},
		{[]byte{128, 0}, 9, api.ErrForm}, {[]byte{129, 0}, 9, api.ErrForm}, {[]byte{129, 0, 97}, 9, api.ErrForm}, {[]byte{130, 0, 2, 2}, 1, api.ErrForm}, {[]byte{129, 0}, -1, api.ErrForm}, {times(9, 128, 0), math.MaxInt, api.ErrForm},
		{times(9, 255, 2), 9, api.ErrOverflow}, {times(10, 255), -1, api.ErrOverflow}, {times(10, 128, 0), math.MaxInt, api.ErrOverflow},
		{[]byte{0}, -1, api.ErrFull}, {[]byte{0}, math.MinInt, api.ErrFull}, {[]byte{1, 2}, -1, api.ErrFull}, {[]byte{1}, 0, api.ErrFull}, {[]byte{1, 128, 0}, 0, api.ErrFull}, {[]byte{2, 10}, 1, api.ErrFull}, {[]byte{3, 97, 98}, 2, api.ErrFull}, {[]byte{3, 97, 98, 99}, 2, api.ErrFull}, {[]byte{128, 1}, 127, api.ErrFull},
		{times(9, 128, 1), math.MaxInt, api.ErrFull}, {times(9, 255, 1), math.MaxInt, api.ErrFull}, {times(9, 255, 1, 2, 2, 2), 1, api.ErrFull}, {times(9, 255, 1), -1, api.ErrFull}, {times(9, 128, 1), math.MinInt, api.ErrFull}, {times(8, 255, 127), math.MaxInt - 1, api.ErrFull},
		{[]byte{1}, 1, api.ErrTruncated}, {[]byte{2, 10}, 9, api.ErrTruncated}, {[]byte{2, 10}, 2, api.ErrTruncated}, {[]byte{3, 97, 98}, 9, api.ErrTruncated}, {[]byte{128, 1}, 128, api.ErrTruncated}, {times(8, 255, 127), math.MaxInt, api.ErrTruncated}, {times(8, 255, 127, 2, 2, 2), math.MaxInt, api.ErrTruncated}, {times(4, 255, 15, 1), 1 << 62, api.ErrTruncated}, {times(8, 255, 63, 2), 1 << 62, api.ErrTruncated},
	} {
		checkTakeText(t, x.b, x.most, "", 0, x.want)
		checkTakeList(t, x.b, x.most, nil, 0, x.want)
	}
}

// The first element that has an error decides.
func TestErrorsOfElements(t *testing.T) {
	over, form, short := times(9, 255, 2), []byte{128, 0}, []byte{128}
	for _, x := range []struct {
		b    []byte
		want api.Errno
	}{
		{joined([]byte{1}, over), api.ErrOverflow}, {joined([]byte{1}, form), api.ErrForm}, {joined([]byte{1}, short), api.ErrTruncated}, {joined([]byte{1}, times(10, 255)), api.ErrOverflow}, {joined([]byte{1}, times(9, 255)), api.ErrTruncated},
		{joined([]byte{2}, over, form), api.ErrOverflow}, {joined([]byte{2}, form, over), api.ErrForm}, {joined([]byte{3}, []byte{2}, over, form), api.ErrOverflow}, {joined([]byte{3}, []byte{2}, form, over), api.ErrForm}, {joined([]byte{9}, form), api.ErrForm}, {joined([]byte{9}, []byte{2}, over), api.ErrOverflow}, {joined([]byte{9}, []byte{2, 2, 2}), api.ErrTruncated}, {joined([]byte{3}, []byte{2, 4}, short), api.ErrTruncated},
		{joined(times(8, 255, 127), form), api.ErrForm}, {joined(times(8, 255, 127), []byte{2, 3}, over), api.ErrOverflow}, {joined(times(8, 255, 127), make([]byte, 1<<20)), api.ErrTruncated},
	} {
		checkTakeList(t, x.b, math.MaxInt, nil, 0, x.want)
	}
	// Bytes after the last element are no element.
	checkTakeList(t, joined([]byte{1, 2}, form), 1, []int{1}, 2, api.OK)
	checkTakeList(t, joined([]byte{0}, over), 0, nil, 1, api.OK)
	checkTakeText(t, joined([]byte{2}, form, over), 2, "\x80\x00", 3, api.OK)
}

// All lists of up to six bytes that stand for the others are taken, with limits around their lengths.
func TestTakesWithLengthOfAllShortBytes(t *testing.T) {
	for _, b := range allBytes([]byte{0, 1, 2, 3, 128, 255}, 6) {
		for most := -1; most <= 4; most++ {
			checkTakesWithLength(t, b, most)
		}
		checkTakesWithLength(t, b, math.MaxInt)
	}
}

// What is taken of any bytes is put as the same bytes.
func TestOneEncodingWithLength(t *testing.T) {
	random := rand.New(rand.NewSource(62))
	texts, lists := 0, 0
	for range 100000 {
		b := make([]byte, 1+random.Intn(40))
		for i := range b {
			b[i] = byte(random.Intn(256) >> random.Intn(8))
		}
		most := random.Intn(60) - 2
		checkTakesWithLength(t, b, most)
		if s, k, e := wire.TakeText(b, most); e == api.OK {
			texts++
			checkPut(t, wire.PutText(nil, s), nil, b[:k])
		}
		if l, k, e := wire.TakeList(b, most); e == api.OK {
			lists++
			checkPut(t, wire.PutList(nil, l), nil, b[:k])
		}
	}
	if texts < 20000 || lists < 20000 {
		t.Fatalf("only %d lists of bytes were encodings of strings, and %d of lists", texts, lists)
	}
}

func TestRoundTrip(t *testing.T) {
	random := rand.New(rand.NewSource(63))
	for range 300 {
		s := make([]byte, random.Intn(200))
		random.Read(s)
		checkText(t, string(s), textOf(string(s)))
		l := make([]int, random.Intn(200))
		for i := range l {
			l[i] = int(random.Uint64()) >> random.Intn(64)
		}
		checkList(t, l, listOf(l))
	}
}

// Several values that are put one after the other are taken one after the other.
func TestSequences(t *testing.T) {
	b := wire.PutUint(nil, 300)
	b = wire.PutText(b, "ab")
	b = wire.PutList(b, []int{5, -1})
	b = wire.PutInt(b, -65)
	checkPut(t, b, nil, []byte{172, 2, 2, 97, 98, 2, 10, 1, 129, 1})
	u, k, _ := wire.TakeUint(b)
	s, size, _ := wire.TakeText(b[k:], 2)
	k += size
	l, size, _ := wire.TakeList(b[k:], 2)
	k += size
	n, size, e := wire.TakeInt(b[k:])
	if u != 300 || s != "ab" || !slices.Equal(l, []int{5, -1}) || n != -65 || k+size != len(b) || e != api.OK {
		t.Fatalf("%v was taken as %d, %q, %v, %d with %d bytes, %d", b, u, s, l, n, k+size, e)
	}
}

func TestPutToNewMemory(t *testing.T) {
	for _, length := range []int{0, 1, 127, 128, 500} {
		s := strings.Repeat("z", length)
		checkNewMemory(t, func(b []byte) []byte { return wire.PutText(b, s) })
		l := slices.Repeat([]int{-3}, length)
		checkNewMemory(t, func(b []byte) []byte { return wire.PutList(b, l) })
		if strings.Trim(s, "z") != "" || slices.ContainsFunc(l, func(n int) bool { return n != -3 }) {
			t.Fatalf("the value was changed to %q, %v", s, l)
		}
	}
}

func TestTakeToNewMemory(t *testing.T) {
	b := []byte{2, 97, 98}
	s, _, _ := wire.TakeText(b, 2)
	clear(b)
	if s != "ab" {
		t.Fatalf("the string became %q with its bytes", s)
	}
	b = []byte{2, 10, 1}
	first, _, _ := wire.TakeList(b, 2)
	second, _, _ := wire.TakeList(b, 2)
	clear(b)
	clear(first[:cap(first)])
	if !slices.Equal(second, []int{5, -1}) {
		t.Fatalf("the list became %v", second)
	}
}
