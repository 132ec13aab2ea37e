package crc_test

import (
	"bytes"
	"encoding/binary"
	"fmt"
	"hash/crc32"
	"math/rand"
	"slices"
	"testing"

	"recycling/api"
	"recycling/crc"
	"recycling/wire"
)

// followers are bytes that may follow a frame.
var followers = [][]byte{nil, {0}, {9}, {127}, {128}, {255}, {0, 0, 0, 0, 0}, []byte("\x09123456789\xCB\xF4\x39\x26"), bytes.Repeat([]byte{255}, 20), make([]byte, 20)}

// shown is the beginning of a value in a message, since some values are long.
func shown(value any) string {
	text := fmt.Sprintf("%#v", value)
	return text[:min(len(text), 300)]
}

// joined are the bytes of its parts, in new memory.
func joined(parts ...[]byte) []byte {
	return bytes.Join(parts, nil)
}

// times are n bytes c and the bytes of last.
func times(n int, c byte, last ...byte) []byte {
	return joined(bytes.Repeat([]byte{c}, n), last)
}

// framed are a length, the bytes of a content and a checksum, which need not belong together.
func framed(length uint64, content []byte, sum uint32) []byte {
	return binary.BigEndian.AppendUint32(append(binary.AppendUvarint(nil, length), content...), sum)
}

// frameOf is the frame of a content, by its definition.
func frameOf(content []byte) []byte {
	return framed(uint64(len(content)), content, crc32.ChecksumIEEE(content))
}

// framesOf are the frames of contents, one after the other.
func framesOf(contents ...string) []byte {
	var b []byte
	for _, content := range contents {
		b = append(b, frameOf([]byte(content))...)
	}
	return b
}

// expectedOpen is what Open returns, by its promise.
func expectedOpen(b []byte) ([]byte, int, api.Errno) {
	length, k, e := wire.TakeUint(b)
	switch {
	case e != api.OK:
		return nil, 0, e
	case length > 65536:
		return nil, 0, api.ErrFull
	case uint64(len(b)) < uint64(k)+length+4:
		return nil, 0, api.ErrTruncated
	}
	content, end := b[k:k+int(length)], k+int(length)+4
	if !bytes.Equal(frameOf(content)[end-4:], b[end-4:end]) {
		return nil, 0, api.ErrChecksum
	}
	return content, end, api.OK
}

// checkOpen fails unless Open of b returns what is wanted, and does not change b.
func checkOpen(t *testing.T, b, want []byte, wantLength int, wantError api.Errno) {
	t.Helper()
	before := bytes.Clone(b)
	if content, length, e := crc.Open(b); !bytes.Equal(content, want) || length != wantLength || e != wantError {
		t.Fatalf("Open(%s) = %s, %d, %d; want %s, %d, %d", shown(b), shown(content), length, e, shown(want), wantLength, wantError)
	}
	if !bytes.Equal(b, before) {
		t.Fatalf("Open changed %s to %s", shown(before), shown(b))
	}
}

func checkOpenRefuses(t *testing.T, b []byte, want api.Errno) {
	t.Helper()
	checkOpen(t, b, nil, 0, want)
}

// checkOpenAsPromised fails unless Open returns of b what it promises.
func checkOpenAsPromised(t *testing.T, b []byte) {
	t.Helper()
	content, length, e := expectedOpen(b)
	checkOpen(t, b, content, length, e)
}

// checkFrame fails unless Frame returns the frame of a content, and Open the content.
func checkFrame(t *testing.T, content, frame []byte) {
	t.Helper()
	before := bytes.Clone(content)
	if b, e := crc.Frame(content); !bytes.Equal(b, frame) || e != api.OK {
		t.Fatalf("Frame(%s) = %s, %d; want %s", shown(content), shown(b), e, shown(frame))
	}
	if !bytes.Equal(content, before) {
		t.Fatalf("Frame changed %s to %s", shown(before), shown(content))
	}
	for _, follower := range followers {
		checkOpen(t, joined(frame, follower), content, len(frame), api.OK)
	}
}

func checkFrameRefuses(t *testing.T, content []byte, want api.Errno) {
	t.Helper()
	if b, e := crc.Frame(content); len(b) != 0 || e != want {
		t.Fatalf("Frame of %d bytes = %s, %d; want %d", len(content), shown(b), e, want)
	}
}

// checkAll fails unless All of b returns these contents and this length, and does not change b.
func checkAll(t *testing.T, b []byte, want []string, wantLength int) {
	t.Helper()
	before := bytes.Clone(b)
	contents, length := crc.All(b)
	same := slices.EqualFunc(contents, want, func(content []byte, s string) bool { return string(content) == s })
	if !same || length != wantLength {
		t.Fatalf("All(%s) = %s, %d; want %s, %d", shown(b), shown(contents), length, shown(want), wantLength)
	}
	if !bytes.Equal(b, before) {
		t.Fatalf("All changed %s to %s", shown(before), shown(b))
	}
}

// checkAllAsPromised fails unless All returns of b what it promises.
func checkAllAsPromised(t *testing.T, b []byte) {
	t.Helper()
	var contents []string
	end := 0
	for end < len(b) {
		content, length, e := expectedOpen(b[end:])
		if e != api.OK {
			break
		}
		contents = append(contents, string(content))
		end += length
	}
	checkAll(t, b, contents, end)
}

func TestFrames(t *testing.T) {
	for content, frame := range map[string]string{
		"": "\x00\x00\x00\x00\x00", "123456789": "\x09123456789\xCB\xF4\x39\x26", "a": "\x01a\xE8\xB7\xBE\x43", "abc": "\x03abc\x35\x24\x41\xC2",
		"\x00": "\x01\x00\xD2\x02\xEF\x8D", "\xff": "\x01\xff\xFF\x00\x00\x00", "\x00\x00\x00\x00": "\x04\x00\x00\x00\x00\x21\x44\xDF\x1C", "\xff\xff\xff\xff": "\x04\xff\xff\xff\xff\xFF\xFF\xFF\xFF",
	} {
		checkFrame(t, []byte(content), []byte(frame))
	}
	checkFrame(t, nil, make([]byte, 5))
	checkFrame(t, []byte{}, make([]byte, 5))
}

func TestFramesOfAllShortContents(t *testing.T) {
	for first := range 256 {
		content := []byte{byte(first)}
		checkFrame(t, content, frameOf(content))
		for second := range 256 {
			content := []byte{byte(first), byte(second)}
			checkFrame(t, content, frameOf(content))
		}
	}
}

func TestFramesOfAllLengths(t *testing.T) {
	random := rand.New(rand.NewSource(71))
	for length := range 600 {
		content := randomBytes(random, length)
		checkFrame(t, content, frameOf(content))
		for cut := range frameOf(content) {
			checkOpenRefuses(t, frameOf(content)[:cut], api.ErrTruncated)
		}
	}
	for _, length := range []int{16383, 16384, 16385, 65534, 65535, 65536} {
		content := randomBytes(random, length)
		frame := frameOf(content)
		checkFrame(t, content, frame)
		for cut := range frame {
			if cut < 10 || cut > len(frame)-10 || cut%1000 == 0 {
				checkOpenRefuses(t, frame[:cut], api.ErrTruncated)
			}
		}
	}
}

func TestFrameRefusesLongContents(t *testing.T) {
	for _, length := range []int{65537, 65538, 1 << 17, 1 << 20} {
		checkFrameRefuses(t, make([]byte, length), api.ErrFull)
		checkOpenRefuses(t, frameOf(make([]byte, length)), api.ErrFull)
	}
}

// The error of the length comes before its size, its size before what is missing, and that before the checksum.
func TestOpenRefuses(t *testing.T) {
	for _, x := range []struct {
		b    []byte
		want api.Errno
	}{
		{nil, api.ErrTruncated}, {[]byte{}, api.ErrTruncated}, {[]byte{128}, api.ErrTruncated}, {[]byte{255, 255}, api.ErrTruncated}, {times(9, 255), api.ErrTruncated},
		{[]byte{128, 0}, api.ErrForm}, {[]byte{128, 0, 0, 0, 0, 0}, api.ErrForm}, {[]byte{129, 0, 97, 0xE8, 0xB7, 0xBE, 0x43}, api.ErrForm}, {[]byte{255, 255, 255, 0}, api.ErrForm}, {times(9, 255, 0), api.ErrForm},
		{times(9, 255, 2), api.ErrOverflow}, {times(10, 255), api.ErrOverflow}, {times(10, 128), api.ErrOverflow}, {times(10, 128, 0), api.ErrOverflow}, {times(9, 128, 2, 0, 0, 0, 0), api.ErrOverflow},
		{[]byte{129, 128, 4}, api.ErrFull}, {[]byte{129, 128, 4, 0, 0}, api.ErrFull}, {[]byte{255, 255, 4}, api.ErrFull}, {[]byte{128, 128, 8}, api.ErrFull}, {times(4, 128, 16), api.ErrFull}, {times(4, 128, 16, 0, 0, 0, 0), api.ErrFull}, {times(8, 128, 127), api.ErrFull}, {times(8, 255, 127), api.ErrFull}, {times(9, 128, 1), api.ErrFull}, {times(9, 128, 1, 0, 0, 0, 0), api.ErrFull}, {times(9, 255, 1), api.ErrFull}, {times(9, 255, 1, 0, 0, 0, 0), api.ErrFull}, {times(1, 251, times(8, 255, 1)...), api.ErrFull}, {times(1, 252, times(8, 255, 1, 0, 0, 0, 0)...), api.ErrFull},
		{[]byte{128, 128, 4}, api.ErrTruncated}, {[]byte{128, 128, 4, 0}, api.ErrTruncated}, {joined([]byte{128, 128, 4}, make([]byte, 65539)), api.ErrTruncated},
		{[]byte{0}, api.ErrTruncated}, {[]byte{0, 0, 0, 0}, api.ErrTruncated}, {[]byte{0, 1, 1, 1}, api.ErrTruncated}, {[]byte{1, 0, 0, 0, 0}, api.ErrTruncated}, {[]byte{1, 97, 0xE8, 0xB7, 0xBE}, api.ErrTruncated}, {[]byte{1, 97, 0, 0, 0}, api.ErrTruncated}, {[]byte("\x09123456789"), api.ErrTruncated}, {[]byte("\x0a123456789\xCB\xF4\x39\x26"), api.ErrTruncated},
		{[]byte{0, 0, 0, 0, 1}, api.ErrChecksum}, {[]byte{0, 1, 0, 0, 0}, api.ErrChecksum}, {[]byte{0, 255, 255, 255, 255}, api.ErrChecksum}, {[]byte{0, 0, 0, 0, 1, 0, 0, 0, 0, 0}, api.ErrChecksum}, {[]byte("\x09123456789\x26\x39\xF4\xCB"), api.ErrChecksum}, {[]byte("\x09123456789\x34\x0B\xC6\xD9"), api.ErrChecksum}, {[]byte("\x09123456798\xCB\xF4\x39\x26"), api.ErrChecksum}, {[]byte("\x08123456789\xCB\xF4\x39\x26"), api.ErrChecksum}, {joined([]byte{128, 128, 4}, make([]byte, 65540)), api.ErrChecksum},
	} {
		checkOpenRefuses(t, x.b, x.want)
		checkOpenAsPromised(t, x.b)
		checkAll(t, x.b, nil, 0)
	}
}

// The checksum is that of the content only, and not that of the length too.
func TestOpenRefusesOtherSums(t *testing.T) {
	for _, content := range []string{"", "a", "abc", "123456789"} {
		b := []byte(content)
		sum := crc32.ChecksumIEEE(b)
		for _, wrong := range []uint32{sum + 1, ^sum, crc32.ChecksumIEEE(append([]byte{byte(len(b))}, b...)), crc32.ChecksumIEEE(append(slices.Clone(b), byte(len(b)))), crc32.Checksum([]byte("x"+content), crc32.MakeTable(crc32.Castagnoli))} {
			checkOpenRefuses(t, framed(uint64(len(b)), b, wrong), api.ErrChecksum)
		}
		for bit := range 32 {
			checkOpenRefuses(t, framed(uint64(len(b)), b, sum^1<<bit), api.ErrChecksum)
		}
	}
}

// Every byte of a frame is replaced by every other one; those of the length make a frame that is longer, shorter or malformed.
func TestOpenOfChangedBytes(t *testing.T) {
	random := rand.New(rand.NewSource(72))
	for _, length := range []int{0, 1, 2, 3, 4, 9, 20, 127, 128, 200} {
		frame := frameOf(randomBytes(random, length))
		head := len(frame) - length - 4
		for place := range frame {
			changed := joined(frame, make([]byte, 9))
			for c := range 256 {
				if changed[place] = byte(c); changed[place] == frame[place] {
					continue
				}
				checkOpenAsPromised(t, changed)
				if place >= head {
					checkOpenRefuses(t, changed, api.ErrChecksum)
					checkOpenRefuses(t, changed[:len(frame)], api.ErrChecksum)
				}
			}
		}
	}
	frame := frameOf(randomBytes(random, 65536))
	for range 300 {
		place := 3 + random.Intn(65540)
		frame[place] ^= 1 << random.Intn(8)
		checkOpenRefuses(t, frame, api.ErrChecksum)
		copy(frame, frameOf(frame[3:65539]))
	}
}

// What is opened is the frame of the content.
func TestOneFrameOfContent(t *testing.T) {
	random := rand.New(rand.NewSource(73))
	opened := 0
	for range 100000 {
		content := randomBytes(random, random.Intn(20))
		b := joined(frameOf(content), randomBytes(random, random.Intn(4)))
		if random.Intn(2) == 0 {
			b[random.Intn(len(b))] = byte(random.Intn(256) >> random.Intn(8))
		}
		checkOpenAsPromised(t, b)
		content, length, e := crc.Open(b)
		if e != api.OK {
			continue
		}
		opened++
		if frame, e := crc.Frame(content); !bytes.Equal(frame, b[:length]) || e != api.OK {
			t.Fatalf("Open accepts %s, but Frame(%s) = %s, %d", shown(b), shown(content), shown(frame), e)
		}
	}
	if opened < 50000 || opened > 90000 {
		t.Fatalf("%d of 100000 were opened", opened)
	}
}

func TestAll(t *testing.T) {
	two := framesOf("123456789", "123456789")
	checkAll(t, append(two, 9), []string{"123456789", "123456789"}, 28)
	for _, contents := range [][]string{{}, {""}, {"", ""}, {"a"}, {"", "abc"}, {"abc", ""}, {"123456789", "", "abc"}, {"b", "a", "b", "b"}, {"\x00\x00\x00\x00\x00", "\xff"}, {string(make([]byte, 65536)), "a", string(make([]byte, 65536))}} {
		b := framesOf(contents...)
		checkAll(t, b, contents, len(b))
		for _, rest := range [][]byte{{1}, {9}, {128}, {128, 0}, {255}, {0, 0, 0, 0, 1}, {129, 128, 4, 0, 0, 0, 0}, times(9, 255, 2), times(20, 255), []byte("\x09123456789\xCB\xF4\x39\x27")} {
			checkAll(t, joined(b, rest), contents, len(b))
			// No frame after the first error is opened.
			checkAll(t, joined(b, rest, framesOf("abc")), contents, len(b))
		}
	}
	checkAll(t, nil, nil, 0)
	checkAll(t, []byte{}, nil, 0)
	checkAll(t, make([]byte, 23), make([]string, 4), 20)
}

// A frame that cannot be opened ends the sequence, though others follow it.
func TestAllOfDamagedFrames(t *testing.T) {
	contents := []string{"123456789", "", "abc", "", "x"}
	whole := framesOf(contents...)
	for damaged := range contents {
		from := len(framesOf(contents[:damaged]...))
		for place := from; place < len(framesOf(contents[:damaged+1]...)); place++ {
			for bit := range 8 {
				b := bytes.Clone(whole)
				b[place] ^= 1 << bit
				checkAllAsPromised(t, b)
				if place > from {
					checkAll(t, b, contents[:damaged], from)
				}
			}
		}
	}
}

func TestAllOfCutFrames(t *testing.T) {
	random := rand.New(rand.NewSource(74))
	for range 200 {
		var contents []string
		for range random.Intn(6) {
			contents = append(contents, string(randomBytes(random, random.Intn(3)*random.Intn(100))))
		}
		b := framesOf(contents...)
		whole, end := 0, 0
		for cut := range len(b) + 1 {
			for whole < len(contents) && len(framesOf(contents[:whole+1]...)) <= cut {
				whole++
				end = cut
			}
			checkAll(t, b[:cut], contents[:whole], end)
		}
	}
}

func TestAllOfManyFrames(t *testing.T) {
	checkAll(t, make([]byte, 5<<20+4), make([]string, 1<<20), 5<<20)
}

func TestFrameToNewMemory(t *testing.T) {
	for _, length := range []int{0, 1, 9, 200} {
		whole := times(300, 7)
		content, frame := whole[:length], frameOf(whole[:length])
		first, _ := crc.Frame(content)
		second, _ := crc.Frame(content)
		overwrite(first)
		if !bytes.Equal(second, frame) {
			t.Fatalf("two frames share memory: %s became %s", shown(frame), shown(second))
		}
		if !bytes.Equal(whole, times(300, 7)) {
			t.Fatalf("a frame has the memory of its content: %s", shown(whole))
		}
		overwrite(whole)
		if !bytes.Equal(second, frame) {
			t.Fatalf("%s became %s with its content", shown(frame), shown(second))
		}
	}
}

// overwrite changes all bytes of the memory of b.
func overwrite(b []byte) {
	for i := range b[:cap(b)] {
		b[:cap(b)][i] ^= 0xA5
	}
}

func TestOpenToNewMemory(t *testing.T) {
	frame := joined(framesOf("123456789"), times(20, 7))
	b := bytes.Clone(frame)
	first, _, _ := crc.Open(b)
	second, _, _ := crc.Open(b)
	overwrite(first)
	if !bytes.Equal(b, frame) || string(second) != "123456789" {
		t.Fatalf("with one content, its frame became %s and another content %s", shown(b), shown(second))
	}
	overwrite(b)
	if string(second) != "123456789" {
		t.Fatalf("a content became %s with its frame", shown(second))
	}
}

func TestAllToNewMemory(t *testing.T) {
	contents := []string{"123456789", "", "abc", "abc"}
	frames := joined(framesOf(contents...), times(20, 7))
	for changed := range contents {
		b := bytes.Clone(frames)
		first, _ := crc.All(b)
		second, _ := crc.All(b)
		overwrite(first[changed])
		if !bytes.Equal(b, frames) {
			t.Fatalf("with content %d, the frames became %s", changed, shown(b))
		}
		overwrite(b)
		for i, content := range contents {
			if string(second[i]) != content || i != changed && string(first[i]) != content {
				t.Fatalf("content %d became %s and %s with content %d and the frames", i, shown(first[i]), shown(second[i]), changed)
			}
		}
		clear(first[:cap(first)])
		if string(second[0]) != contents[0] {
			t.Fatalf("two results share their lists: %s", shown(second))
		}
	}
}
