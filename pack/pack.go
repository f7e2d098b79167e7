// Package pack is layer 1: see shared/doc/01-pack.md.
package pack

import (
	"strings"

	"horologe/api"
)

const (
	numberBytes = 8
	countBytes  = 2
	maxList     = 512
	signShift   = 1 << 63
)

// integer is every kind of number that can be laid.
type integer interface {
	~int | ~int8 | ~int16 | ~int32 | ~int64 |
		~uint | ~uint8 | ~uint16 | ~uint32 | ~uint64
}

// lay lays the lowest bytes of a number, as many as width says, the highest first.
// Signed kinds are shifted up, so that negative ones come ahead of the others byte by byte.
func lay[T integer](n T, width int) string {
	bits := uint64(n)
	if isSigned[T]() {
		bits += signShift
	}
	b := make([]byte, width)
	for i := range width {
		b[width-1-i] = byte(bits)
		bits >>= 8
	}
	return string(b)
}

// isSigned tells by wrap-round: what comes ahead of 0 is less than 0 in signed kinds alone.
func isSigned[T integer]() bool {
	var zero T
	return zero-1 < zero
}

// read is the other way of lay, without the shift of signed kinds.
func read(s string, at, width int) (uint64, int, api.Errno) {
	if at < 0 || at > len(s) {
		return 0, 0, api.ErrRange
	}
	if len(s)-at < width {
		return 0, 0, api.ErrShort
	}
	var n uint64
	for i := range width {
		n = n<<8 | uint64(s[at+i])
	}
	return n, at + width, api.OK
}

// readCount reads how many items come, each of so many bytes, and makes sure that all of them are there.
func readCount(s string, at, most, size int) (int, int, api.Errno) {
	n, next, e := read(s, at, countBytes)
	if e != api.OK {
		return 0, 0, e
	}
	count := int(n)
	if count > most {
		return 0, 0, api.ErrBig
	}
	if len(s)-next < count*size {
		return 0, 0, api.ErrShort
	}
	return count, next, api.OK
}

// U lays an unsigned number.
func U(n uint64) string { return lay(n, numberBytes) }

// I lays a signed number.
func I(n int) string { return lay(n, numberBytes) }

// Text lays a text.
func Text(s string) (string, api.Errno) {
	if len(s) > api.MaxText {
		return "", api.ErrBig
	}
	return lay(uint16(len(s)), countBytes) + s, api.OK
}

// List lays numbers.
func List(l []int) (string, api.Errno) {
	if len(l) > maxList {
		return "", api.ErrBig
	}
	var b strings.Builder
	b.WriteString(lay(uint16(len(l)), countBytes))
	for i := range len(l) {
		b.WriteString(I(l[i]))
	}
	return b.String(), api.OK
}

// ReadU reads an unsigned number.
func ReadU(s string, at int) (uint64, int, api.Errno) {
	return read(s, at, numberBytes)
}

// ReadI reads a signed number.
func ReadI(s string, at int) (int, int, api.Errno) {
	n, next, e := read(s, at, numberBytes)
	if e != api.OK {
		return 0, 0, e
	}
	return int(n - signShift), next, api.OK
}

// ReadText reads a text.
func ReadText(s string, at int) (string, int, api.Errno) {
	n, from, e := readCount(s, at, api.MaxText, 1)
	if e != api.OK {
		return "", 0, e
	}
	// A piece of s would keep all of s in memory.
	return strings.Clone(s[from : from+n]), from + n, api.OK
}

// ReadList reads numbers.
func ReadList(s string, at int) ([]int, int, api.Errno) {
	n, next, e := readCount(s, at, maxList, numberBytes)
	if e != api.OK {
		return nil, 0, e
	}
	l := make([]int, n)
	for i := range n {
		// readCount has made sure that every number's bytes are there.
		l[i], next, _ = ReadI(s, next)
	}
	return l, next, api.OK
}
