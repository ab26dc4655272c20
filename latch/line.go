package latch

import (
	"slices"
	"strings"

	"latch/api"
	"latch/frame"
	"latch/pack"
)

const (
	maxSerial = 1 + api.MaxBody + 2 // the unit, the body, the check
	allUnits  = 0
)

// line is one, with the bytes that have come over it and are not looked at yet.
type line struct {
	kind   int
	bytes  string
	broken bool
}

func newLines(kinds []int) []line {
	lines := make([]line, len(kinds))
	for i, kind := range kinds {
		lines[i].kind = kind
	}
	return lines
}

// hear lets bytes come, and tells the requests that they make whole.
func (l *line) hear(s string) []api.Frame {
	if l.kind == api.Serial {
		l.collect(s)
		return nil
	}
	if l.broken {
		return nil
	}
	all := l.bytes + s
	frames, taken, errno := frame.Split(all)
	// The clone holds on neither to what was handed in nor to what was taken.
	l.bytes = strings.Clone(all[taken:])
	if errno != api.OK {
		l.bytes, l.broken = "", true
	}
	return frames
}

// collect keeps one byte more than a request may have, which is enough to show
// that there are too many.
func (l *line) collect(s string) {
	kept := min(len(s), maxSerial+1-len(l.bytes))
	l.bytes = strings.Clone(l.bytes + s[:kept])
}

// asksAll tells whether a unit on this line means every one.
func (l *line) asksAll(unit int) bool { return l.kind == api.Serial && unit == allUnits }

// framed is an answer in the bytes that go over the line.
func (l *line) framed(f api.Frame) string {
	inner := string([]byte{byte(f.Unit)}) + f.Body
	if l.kind == api.Stream {
		return pack.Words(f.Mark, 0, len(inner)) + inner
	}
	check := frame.Check(inner)
	return inner + string([]byte{byte(check), byte(check >> 8)})
}

// piece is all that came over a Serial line between two ticks.
type piece struct {
	line  int
	bytes string
}

// silence ends what has come over the Serial lines.
func silence(lines []line) []piece {
	var pieces []piece
	for i := range lines {
		if lines[i].kind == api.Serial {
			pieces = append(pieces, piece{i, lines[i].bytes})
			lines[i].bytes = ""
		}
	}
	return pieces
}

// found is a request that came over a Serial line.
type found struct {
	line  int
	frame api.Frame
}

// lookAt finds the requests among pieces, line by line.
func lookAt(pieces []piece) []found {
	half := len(pieces) / 2
	left, right := make(chan found), make(chan found)
	go look(pieces[:half], left)
	go look(pieces[half:], right)
	finds := gather(left, right)
	// They were gathered as the two came to find them.
	slices.SortFunc(finds, func(a, b found) int { return a.line - b.line })
	return finds
}

func look(pieces []piece, finds chan<- found) {
	defer close(finds)
	for _, p := range pieces {
		if f, errno := frame.Serial(p.bytes); errno == api.OK {
			finds <- found{p.line, f}
		}
	}
}

// gather takes from both until both are closed. A closed one is set to nil,
// from which select never takes.
func gather(left, right <-chan found) []found {
	var finds []found
	for left != nil || right != nil {
		select {
		case f, open := <-left:
			if !open {
				left = nil
				continue
			}
			finds = append(finds, f)
		case f, open := <-right:
			if !open {
				right = nil
				continue
			}
			finds = append(finds, f)
		}
	}
	return finds
}
