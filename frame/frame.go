// Package frame: requests in bytes: see DOC.md.
package frame

import (
	"strings"

	"latch/api"
)

const (
	headSize  = 6            // on a Stream: the mark, the word 0, the length
	unitSize  = 1            // the byte ahead of each body
	checkSize = 2            // on a Serial line, behind the body
	minLength = unitSize + 1 // a body has at least its function
	maxLength = unitSize + api.MaxBody
)

// Check is the check of some bytes (P3).
func Check(s string) uint16 {
	check := uint16(65535)
	for i := range len(s) {
		check = checkByte(check, s[i])
	}
	return check
}

func checkByte(check uint16, b byte) uint16 {
	check ^= uint16(b)
	for range 8 {
		lowest := check & 1
		check >>= 1
		if lowest == 1 {
			check ^= 40961
		}
	}
	return check
}

// Split takes the requests on a Stream apart (P4).
func Split(s string) ([]api.Frame, int, api.Errno) {
	var frames []api.Frame
	taken := 0
	for size := wholeSize(s); size > 0; size = wholeSize(s[taken:]) {
		frames = append(frames, streamFrame(s[taken:taken+size]))
		taken += size
	}
	if breaks(s[taken:]) {
		return frames, taken, api.ErrFrame
	}
	return frames, taken, api.OK
}

// wholeSize is the size of the request with which s begins, 0 if none is whole.
func wholeSize(s string) int {
	if len(s) < headSize || breaks(s) {
		return 0
	}
	size := headSize + int(s[5])
	if len(s) < size {
		return 0
	}
	return size
}

// breaks looks at the head byte by byte, not word by word: a line breaks with
// the first byte that cannot be, also if the rest of its word has not come.
func breaks(s string) bool {
	for i := 2; i < 5 && i < len(s); i++ {
		if s[i] != 0 {
			return true
		}
	}
	return len(s) > 5 && (s[5] < minLength || s[5] > maxLength)
}

func streamFrame(s string) api.Frame {
	f := unitAndBody(s[headSize:])
	f.Mark = int(s[0])<<8 | int(s[1])
	return f
}

// unitAndBody clones the body, so that a frame does not hold on to all the
// bytes it came with.
func unitAndBody(s string) api.Frame {
	return api.Frame{Unit: int(s[0]), Body: strings.Clone(s[unitSize:])}
}

// Serial is the request on a Serial line (P4).
func Serial(s string) (api.Frame, api.Errno) {
	length := len(s) - checkSize
	if length < minLength || length > maxLength {
		return api.Frame{}, api.ErrFrame
	}
	check := uint16(s[length]) | uint16(s[length+1])<<8
	if check != Check(s[:length]) {
		return api.Frame{}, api.ErrFrame
	}
	return unitAndBody(s[:length]), api.OK
}
