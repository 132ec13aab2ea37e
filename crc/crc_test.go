package crc_test

import (
	"bytes"
	"hash/crc32"
	"math/rand"
	"strings"
	"testing"

	"recycling/crc"
)

// powers are those of the polynomial of the CRC-32 below the highest one; the powers from 31 down to 0 have the bits from the lowest to the highest one of the register.
var powers = []int{26, 23, 22, 16, 12, 11, 10, 8, 7, 5, 4, 2, 1, 0}

// registers are numbers that a computation may continue from.
var registers = []uint32{0, 1, 2, 77, 0x80, 0xFF, 0x100, 0xEDB88320, 0x04C11DB7, 0x12345678, 0x7FFFFFFF, 0x80000000, 0xFFFFFF00, 0xFFFFFFFE, 0xFFFFFFFF}

// extended is what Extend returns, by its promise, with a register of single bits.
func extended(sum uint32, b []byte) uint32 {
	var register [32]bool
	for bit := range register {
		register[bit] = sum>>bit&1 == 0
	}
	for _, c := range b {
		for bit := range 8 {
			register[bit] = register[bit] != (c>>bit&1 == 1)
		}
		for range 8 {
			out := register[0]
			copy(register[:], register[1:])
			register[31] = false
			for _, power := range powers {
				register[31-power] = register[31-power] != out
			}
		}
	}
	var result uint32
	for bit, set := range register {
		if !set {
			result |= 1 << bit
		}
	}
	return result
}

// randomBytes are n bytes.
func randomBytes(random *rand.Rand, n int) []byte {
	b := make([]byte, n)
	random.Read(b)
	return b
}

func checkExtend(t *testing.T, sum uint32, b []byte, want uint32) {
	t.Helper()
	before := bytes.Clone(b)
	if result := crc.Extend(sum, b); result != want {
		t.Fatalf("Extend(%08X, %s) = %08X; want %08X", sum, shown(b), result, want)
	}
	if !bytes.Equal(b, before) {
		t.Fatalf("Extend changed %s to %s", shown(before), shown(b))
	}
}

func checkSum(t *testing.T, b []byte, want uint32) {
	t.Helper()
	before := bytes.Clone(b)
	if sum := crc.Sum(b); sum != want {
		t.Fatalf("Sum(%s) = %08X; want %08X", shown(b), sum, want)
	}
	if !bytes.Equal(b, before) {
		t.Fatalf("Sum changed %s to %s", shown(before), shown(b))
	}
}

// checkSplits fails unless the checksum of b is want, in one computation and when it is continued at any place.
func checkSplits(t *testing.T, b []byte, want uint32) {
	t.Helper()
	checkSum(t, b, want)
	for place := range len(b) + 1 {
		checkExtend(t, crc.Sum(b[:place]), b[place:], want)
	}
}

func TestSums(t *testing.T) {
	for s, want := range map[string]uint32{
		"": 0, "a": 0xE8B7BE43, "abc": 0x352441C2, "1234": 0x9BE3E0A3, "123456789": 0xCBF43926, "The quick brown fox jumps over the lazy dog": 0x414FA339,
		"\x00": 0xD202EF8D, "\xff": 0xFF000000, "\x00\x00\x00\x00": 0x2144DF1C, "\xff\xff\xff\xff": 0xFFFFFFFF, "\xff\xff\xff\xff\x00": 0xFFFFFFFF, "\xff\xff\xff\xff\xff": 0xD2FD1072,
		strings.Repeat("\x00", 32): 0x190A55AD, strings.Repeat("\xff", 32): 0xFF6CAB0B,
	} {
		checkSplits(t, []byte(s), want)
	}
	checkSum(t, nil, 0)
	checkSum(t, []byte{}, 0)
}

// All sequences of one or two bytes are summed, and continue every register.
func TestSumsOfAllShortBytes(t *testing.T) {
	for first := range 256 {
		b := []byte{byte(first)}
		checkSum(t, b, extended(0, b))
		for _, sum := range registers {
			checkExtend(t, sum, b, extended(sum, b))
		}
		for second := range 256 {
			b := []byte{byte(first), byte(second)}
			checkSum(t, b, crc32.ChecksumIEEE(b))
			checkExtend(t, registers[second%len(registers)], b, crc32.Update(registers[second%len(registers)], crc32.IEEETable, b))
		}
	}
}

// The register of a computation may be any number, whatever bytes lead to it.
func TestExtend(t *testing.T) {
	for _, sum := range registers {
		checkExtend(t, sum, nil, sum)
		checkExtend(t, sum, []byte{}, sum)
	}
	for bit := range 32 {
		for _, b := range [][]byte{nil, {0}, {1}, {128}, {255}, []byte("123456789"), make([]byte, 9)} {
			checkExtend(t, 1<<bit, b, extended(1<<bit, b))
			checkExtend(t, ^uint32(1<<bit), b, extended(^uint32(1<<bit), b))
		}
	}
	checkExtend(t, crc.Sum([]byte("1234")), []byte("56789"), 0xCBF43926)
}

// Another package that computes checksums agrees.
func TestSumsOfAllLengths(t *testing.T) {
	random := rand.New(rand.NewSource(7))
	for length := range 200 {
		b := randomBytes(random, length)
		checkSplits(t, b, crc32.ChecksumIEEE(b))
		sum := random.Uint32()
		checkExtend(t, sum, b, crc32.Update(sum, crc32.IEEETable, b))
		checkExtend(t, sum, b, extended(sum, b))
	}
	for _, length := range []int{1023, 1 << 16, 1<<20 + 1} {
		b := randomBytes(random, length)
		checkSum(t, b, crc32.ChecksumIEEE(b))
		for range 5 {
			place := random.Intn(length)
			checkExtend(t, crc.Sum(b[:place]), b[place:], crc32.ChecksumIEEE(b))
		}
	}
}

// A sum does not depend on the sums that were computed before it.
func TestSumsKeepNothing(t *testing.T) {
	for range 3 {
		checkSum(t, []byte("123456789"), 0xCBF43926)
		checkExtend(t, 77, []byte("abc"), extended(77, []byte("abc")))
	}
}
