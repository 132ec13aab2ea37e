package crc

import (
	"recycling/api"
	"recycling/wire"
)

// sumBytes is the number of bytes that a checksum takes in a frame.
const sumBytes = 4

// Frame returns the length of b, b, and its checksum in four bytes, most significant byte first; ErrFull if b is longer than MaxFrame.
func Frame(b []byte) ([]byte, api.Errno) {
	if len(b) > api.MaxFrame {
		return nil, api.ErrFull
	}
	frame := append(wire.PutUint(nil, uint64(len(b))), b...)
	return appendSum(frame, Sum(b)), api.OK
}

// Open reads a frame at the beginning of b and returns its content and its length.
func Open(b []byte) ([]byte, int, api.Errno) {
	length, k, e := wire.TakeUint(b)
	if e != api.OK {
		return nil, 0, e
	}
	if length > api.MaxFrame {
		return nil, 0, api.ErrFull
	}
	end := k + int(length)
	if len(b) < end+sumBytes {
		return nil, 0, api.ErrTruncated
	}
	content := make([]byte, length)
	copy(content, b[k:end])
	if Sum(content) != sumAt(b[end:]) {
		return nil, 0, api.ErrChecksum
	}
	return content, end + sumBytes, api.OK
}

// All returns the contents of the longest sequence of frames at the beginning of b, and its length.
func All(b []byte) ([][]byte, int) {
	var contents [][]byte
	length := 0
	for {
		// No bytes are no frame, so the end of b ends the sequence as well.
		content, size, e := Open(b[length:])
		if e != api.OK {
			return contents, length
		}
		contents = append(contents, content)
		length += size
	}
}

// appendSum appends the bytes of a checksum to b in place.
func appendSum(b []byte, sum uint32) []byte {
	return append(b, byte(sum>>24), byte(sum>>16), byte(sum>>8), byte(sum))
}

// sumAt returns the checksum whose bytes b begins with.
func sumAt(b []byte) uint32 {
	var sum uint32
	for _, c := range b[:sumBytes] {
		sum = sum<<8 | uint32(c)
	}
	return sum
}
