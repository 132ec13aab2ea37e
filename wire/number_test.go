package wire_test

import (
	"bytes"
	"encoding/binary"
	"math"
	"math/big"
	"math/bits"
	"math/rand"
	"slices"
	"testing"

	"recycling/api"
	"recycling/wire"
)

// followers are bytes that may follow an encoding.
var followers = [][]byte{nil, {0}, {1}, {9}, {127}, {128}, {255}, {128, 0}, {0, 128, 255}, bytes.Repeat([]byte{255}, 20), make([]byte, 20)}

// joined are the bytes of its parts, in new memory.
func joined(parts ...[]byte) []byte {
	return bytes.Join(parts, nil)
}

// times are n bytes c and the bytes of last.
func times(n int, c byte, last ...byte) []byte {
	return joined(bytes.Repeat([]byte{c}, n), last)
}

// varintOf is the varint of u, by its definition.
func varintOf(u uint64) []byte {
	groups := []byte{byte(u % 128)}
	for u /= 128; u > 0; u /= 128 {
		groups[len(groups)-1] += 128
		groups = append(groups, byte(u%128))
	}
	return groups
}

// zigzagOf is the zigzag code of n, by its definition.
func zigzagOf(n int) uint64 {
	code := new(big.Int).Mul(big.NewInt(2), big.NewInt(int64(n)))
	if n < 0 {
		code.Sub(code.Neg(code), big.NewInt(1))
	}
	return code.Uint64()
}

// expectedUint is what TakeUint returns, by its promise.
func expectedUint(b []byte) (uint64, int, api.Errno) {
	k := 1 + slices.IndexFunc(b[:min(10, len(b))], func(c byte) bool { return c < 128 })
	switch {
	case k == 0 && len(b) >= 10:
		return 0, 0, api.ErrOverflow
	case k == 0:
		return 0, 0, api.ErrTruncated
	case k == 10 && b[9] > 1:
		return 0, 0, api.ErrOverflow
	case k > 1 && b[k-1] == 0:
		return 0, 0, api.ErrForm
	}
	u := new(big.Int)
	for i := k - 1; i >= 0; i-- {
		u.Lsh(u, 7).Add(u, big.NewInt(int64(b[i]%128)))
	}
	return u.Uint64(), k, api.OK
}

// expectedInt is what TakeInt returns, by its promise.
func expectedInt(b []byte) (int, int, api.Errno) {
	code, k, e := expectedUint(b)
	if e != api.OK {
		return 0, 0, e
	}
	n := new(big.Int).SetUint64(code)
	if code%2 == 0 {
		return int(n.Div(n, big.NewInt(2)).Int64()), k, api.OK
	}
	n.Add(n, big.NewInt(1)).Div(n, big.NewInt(2))
	return int(n.Neg(n).Int64()), k, api.OK
}

// checkTakes fails unless TakeUint and TakeInt return of b what they promise.
func checkTakes(t *testing.T, b []byte) {
	t.Helper()
	before := bytes.Clone(b)
	wantU, wantK, wantError := expectedUint(b)
	if u, k, e := wire.TakeUint(b); u != wantU || k != wantK || e != wantError {
		t.Fatalf("TakeUint(%v) = %d, %d, %d; want %d, %d, %d", b, u, k, e, wantU, wantK, wantError)
	}
	wantN, wantK, wantError := expectedInt(b)
	if n, k, e := wire.TakeInt(b); n != wantN || k != wantK || e != wantError {
		t.Fatalf("TakeInt(%v) = %d, %d, %d; want %d, %d, %d", b, n, k, e, wantN, wantK, wantError)
	}
	if !bytes.Equal(b, before) {
		t.Fatalf("%v was changed to %v", before, b)
	}
}

// checkPut fails unless long are the bytes of b and an encoding.
func checkPut(t *testing.T, long, b, encoding []byte) {
	t.Helper()
	if !bytes.Equal(long, joined(b, encoding)) {
		t.Fatalf("%s is %s and something other than %s", shown(long), shown(b), shown(encoding))
	}
}

// checkUint fails unless encoding is that of u, for both functions.
func checkUint(t *testing.T, u uint64, encoding []byte) {
	t.Helper()
	for _, b := range followers {
		checkPut(t, wire.PutUint(b, u), b, encoding)
		if taken, k, e := wire.TakeUint(joined(encoding, b)); taken != u || k != len(encoding) || e != api.OK {
			t.Fatalf("TakeUint(%v and %v) = %d, %d, %d; want %d", encoding, b, taken, k, e, u)
		}
	}
	for length := range encoding {
		if taken, k, e := wire.TakeUint(encoding[:length]); taken != 0 || k != 0 || e != api.ErrTruncated {
			t.Fatalf("TakeUint(%v) = %d, %d, %d; want ErrTruncated", encoding[:length], taken, k, e)
		}
	}
}

// checkInt fails unless encoding is that of n, for both functions.
func checkInt(t *testing.T, n int, encoding []byte) {
	t.Helper()
	for _, b := range followers {
		checkPut(t, wire.PutInt(b, n), b, encoding)
		if taken, k, e := wire.TakeInt(joined(encoding, b)); taken != n || k != len(encoding) || e != api.OK {
			t.Fatalf("TakeInt(%v and %v) = %d, %d, %d; want %d", encoding, b, taken, k, e, n)
		}
	}
	for length := range encoding {
		if taken, k, e := wire.TakeInt(encoding[:length]); taken != 0 || k != 0 || e != api.ErrTruncated {
			t.Fatalf("TakeInt(%v) = %d, %d, %d; want ErrTruncated", encoding[:length], taken, k, e)
		}
	}
}

func TestUints(t *testing.T) {
	for u, encoding := range map[uint64][]byte{
		0: {0}, 1: {1}, 2: {2}, 126: {126}, 127: {127}, 128: {128, 1}, 129: {129, 1}, 255: {255, 1}, 256: {128, 2}, 300: {172, 2}, 16383: {255, 127}, 16384: {128, 128, 1}, 16385: {129, 128, 1},
		1 << 32: {128, 128, 128, 128, 16}, 1<<32 - 1: {255, 255, 255, 255, 15}, 1<<63 - 1: times(8, 255, 127), 1 << 63: times(9, 128, 1), 1<<63 + 1: times(1, 129, times(8, 128, 1)...), 1<<64 - 2: times(1, 254, times(8, 255, 1)...), 1<<64 - 1: times(9, 255, 1),
	} {
		checkUint(t, u, encoding)
	}
}

func TestTakeUintRefuses(t *testing.T) {
	for _, x := range []struct {
		b    []byte
		want api.Errno
	}{
		{nil, api.ErrTruncated}, {[]byte{}, api.ErrTruncated}, {[]byte{128}, api.ErrTruncated}, {[]byte{255}, api.ErrTruncated}, {[]byte{172}, api.ErrTruncated}, {[]byte{128, 128}, api.ErrTruncated}, {times(9, 128), api.ErrTruncated}, {times(9, 255), api.ErrTruncated},
		{[]byte{128, 0}, api.ErrForm}, {[]byte{255, 0}, api.ErrForm}, {[]byte{172, 130, 0}, api.ErrForm}, {[]byte{128, 0, 1}, api.ErrForm}, {[]byte{128, 0, 128}, api.ErrForm}, {[]byte{128, 128, 0, 0}, api.ErrForm}, {times(8, 128, 0), api.ErrForm}, {times(8, 255, 0, 1), api.ErrForm}, {times(9, 128, 0), api.ErrForm}, {times(9, 255, 0), api.ErrForm}, {times(9, 255, 0, 255), api.ErrForm},
		{times(9, 255, 2), api.ErrOverflow}, {times(9, 128, 2), api.ErrOverflow}, {times(9, 128, 3), api.ErrOverflow}, {times(9, 255, 127), api.ErrOverflow}, {times(9, 255, 64), api.ErrOverflow}, {times(9, 255, 2, 1), api.ErrOverflow}, {times(10, 255), api.ErrOverflow}, {times(10, 128), api.ErrOverflow}, {times(9, 255, 129), api.ErrOverflow}, {times(10, 128, 0), api.ErrOverflow}, {times(10, 128, 1), api.ErrOverflow}, {times(10, 255, 1), api.ErrOverflow}, {times(11, 255), api.ErrOverflow}, {times(1<<20, 255, 0), api.ErrOverflow}, {times(1<<20, 128), api.ErrOverflow},
	} {
		if u, k, e := wire.TakeUint(x.b); u != 0 || k != 0 || e != x.want {
			t.Fatalf("TakeUint(%s) = %d, %d, %d; want %d", shown(x.b), u, k, e, x.want)
		}
		if n, k, e := wire.TakeInt(x.b); n != 0 || k != 0 || e != x.want {
			t.Fatalf("TakeInt(%s) = %d, %d, %d; want %d", shown(x.b), n, k, e, x.want)
		}
	}
}

// All lists of up to two bytes are taken, and lists of up to six bytes that stand for the others.
func TestTakesOfAllShortBytes(t *testing.T) {
	for first := range 256 {
		checkTakes(t, []byte{byte(first)})
		for second := range 256 {
			checkTakes(t, []byte{byte(first), byte(second)})
		}
	}
	for _, b := range allBytes([]byte{0, 1, 2, 127, 128, 255}, 6) {
		checkTakes(t, b)
	}
}

// allBytes are all lists of up to limit bytes of an alphabet.
func allBytes(alphabet []byte, limit int) [][]byte {
	all := [][]byte{nil}
	for first := 0; len(all[first]) < limit; first++ {
		for _, c := range alphabet {
			all = append(all, joined(all[first], []byte{c}))
		}
	}
	return all
}

// Every byte is tried at every place of varints of all lengths, also of those that are too long.
func TestTakesOfAllBytes(t *testing.T) {
	for length := 1; length <= 12; length++ {
		for _, c := range []byte{128, 129, 170, 213, 255} {
			for _, last := range []byte{0, 1, 2, 63, 64, 127} {
				for place := range length {
					b := times(length-1, c, last)
					for changed := range 256 {
						b[place] = byte(changed)
						checkTakes(t, b)
					}
				}
			}
		}
	}
}

func TestInts(t *testing.T) {
	for n, encoding := range map[int][]byte{
		0: {0}, -1: {1}, 1: {2}, -2: {3}, 2: {4}, 5: {10}, 63: {126}, -64: {127}, 64: {128, 1}, -65: {129, 1}, 65: {130, 1}, 150: {172, 2}, -150: {171, 2}, 8191: {254, 127}, -8192: {255, 127}, 8192: {128, 128, 1},
		math.MaxInt32: {254, 255, 255, 255, 15}, math.MinInt32: {255, 255, 255, 255, 15}, math.MaxInt32 + 1: {128, 128, 128, 128, 16}, 1 << 62: times(9, 128, 1), -1 << 62: times(8, 255, 127), 1<<62 - 1: times(1, 254, times(7, 255, 127)...), math.MaxInt: times(1, 254, times(8, 255, 1)...), math.MinInt: times(9, 255, 1), math.MinInt + 1: times(1, 253, times(8, 255, 1)...),
	} {
		checkInt(t, n, encoding)
	}
}

func TestNumbersAroundZero(t *testing.T) {
	for n := -20000; n <= 20000; n++ {
		checkInt(t, n, varintOf(zigzagOf(n)))
		if n >= 0 {
			checkUint(t, uint64(n), varintOf(uint64(n)))
		}
	}
}

func TestNumbersAroundPowers(t *testing.T) {
	for shift := range 64 {
		for d := range 21 {
			u := uint64(1)<<shift + uint64(d) - 10
			checkUint(t, u, varintOf(u))
			checkUint(t, -u, varintOf(-u))
			checkInt(t, int(u), varintOf(zigzagOf(int(u))))
			checkInt(t, int(-u), varintOf(zigzagOf(int(-u))))
		}
	}
}

// Another package that encodes numbers agrees.
func TestNumbersOfAllLengths(t *testing.T) {
	random := rand.New(rand.NewSource(6))
	for range 20000 {
		u := random.Uint64() >> random.Intn(64)
		checkUint(t, u, binary.AppendUvarint(nil, u))
		n := int(random.Uint64()) >> random.Intn(64)
		checkInt(t, n, binary.AppendVarint(nil, int64(n)))
	}
}

// What is taken of any bytes is put as the same bytes.
func TestOneEncodingOfNumbers(t *testing.T) {
	random := rand.New(rand.NewSource(61))
	taken := 0
	for range 200000 {
		b := make([]byte, random.Intn(13))
		for i := range b {
			b[i] = byte(random.Intn(256)) | byte(random.Intn(8)/2<<7)
		}
		checkTakes(t, b)
		u, k, e := wire.TakeUint(b)
		if e != api.OK {
			continue
		}
		taken++
		checkPut(t, wire.PutUint(nil, u), nil, b[:k])
		n, k, _ := wire.TakeInt(b)
		checkPut(t, wire.PutInt(nil, n), nil, b[:k])
	}
	if taken < 20000 {
		t.Fatalf("only %d lists of bytes were encodings", taken)
	}
}

func TestLengthsOfVarints(t *testing.T) {
	shortest := 1
	for shift := range 64 {
		for _, u := range []uint64{1<<shift - 1, 1 << shift, 1<<shift + 1} {
			groups := max(1, (bits.Len64(u)+6)/7)
			if b := wire.PutUint(nil, u); len(b) != groups {
				t.Fatalf("the varint of %d has %d bytes; want %d", u, len(b), groups)
			}
		}
		length := len(wire.PutUint(nil, 1<<shift))
		if length < shortest {
			t.Fatalf("the varint of 1 << %d has only %d bytes", shift, length)
		}
		shortest = length
	}
	for length := 1; length <= 9; length++ {
		if k := len(wire.PutUint(nil, 1<<(7*length)-1)); k != length {
			t.Fatalf("the greatest integer of %d groups has a varint of %d bytes", length, k)
		}
		if k := len(wire.PutUint(nil, 1<<(7*length))); k != length+1 {
			t.Fatalf("the least integer of %d groups has a varint of %d bytes", length+1, k)
		}
	}
	for n := range 1 << 17 {
		if len(wire.PutUint(nil, uint64(n))) > len(wire.PutUint(nil, uint64(n+1))) {
			t.Fatalf("the varint of %d is longer than that of the next integer", n)
		}
	}
}

// checkNewMemory fails if put writes to the memory of its argument, or returns a part of it, or the same memory twice.
func checkNewMemory(t *testing.T, put func(b []byte) []byte) {
	t.Helper()
	for length := range 4 {
		whole := times(600, 200)
		b := whole[:length]
		first, second := put(b), put(b)
		before := bytes.Clone(second)
		if !bytes.Equal(whole, times(600, 200)) {
			t.Fatalf("the memory behind %d bytes was changed to %v", length, whole)
		}
		for i := range first {
			first[i]++
		}
		clear(first[len(first):cap(first)])
		if !bytes.Equal(second, before) {
			t.Fatalf("two results share memory: %v became %v", before, second)
		}
		if !bytes.Equal(whole, times(600, 200)) {
			t.Fatalf("a result has the memory of its argument: %v", whole)
		}
		clear(whole)
		if !bytes.Equal(second, before) {
			t.Fatalf("%v became %v with its argument", before, second)
		}
	}
}

func TestPutNumbersToNewMemory(t *testing.T) {
	for _, u := range []uint64{0, 1, 128, 1 << 20, 1<<64 - 1} {
		checkNewMemory(t, func(b []byte) []byte { return wire.PutUint(b, u) })
		checkNewMemory(t, func(b []byte) []byte { return wire.PutInt(b, int(u)) })
	}
}
