package latch_test

import (
	"math/rand"
	"slices"
	"testing"

	"latch/api"
)

// story is a device beside its model, with what P9 asks it to have when the
// power goes.
type story struct {
	*run
	r     *rand.Rand
	o     *opener
	every bool // each loss is gone through, not only one that is drawn
	more  int  // how often the power goes again while the device is opened
	rare  int  // one call in so many is the last ahead of a loss, none if 0

	power medium   // what has been written, and how much of that a loss may undo
	left  []string // the kept entries at first, and behind each request
	due   []int    // the numbers of the requests that are still to be answered
	least int      // how many of the first requests no loss may undo
}

// newStory begins with a disk; every loss is gone through, and two more while
// the device is opened.
func newStory(t *testing.T, c api.Config, disk []string, seed int) *story {
	t.Helper()
	s := &story{
		run:   &run{rig: &rig{t: t, c: c, disk: slices.Clone(disk)}, heard: map[int]want{}},
		r:     rand.New(rand.NewSource(int64(seed))),
		o:     newOpener(t, c, nil),
		every: true,
		more:  2,
	}
	s.begin()
	return s
}

// begin opens the device; what it has then is what no loss may undo.
func (s *story) begin() {
	s.t.Helper()
	_, acts := s.o.open(s.disk)
	s.power = medium{safe: slices.Clone(s.disk)}.behind(acts)
	s.open()
	s.left = []string{keptOf(s.t, s.d, s.c)}
	s.due, s.least = nil, 0
	s.m = newModel(s.c)
	for table := range s.m.tables {
		s.m.tables[table] = s.look(table)
	}
	clear(s.heard)
}

func (m *model) kept() string {
	coils, holders := m.tables[api.Coils][:m.c.Coils], m.tables[api.Holders][:m.c.Holds]
	return string(append(textOf(coils), textOf(holders)...))
}

// takes has the model take a request.
func (s *story) takes(line int, w want) []string {
	done, answered := s.m.heeds(line, w)
	seen := s.m.take(line, w)
	if done {
		s.left = append(s.left, s.m.kept())
	}
	if answered {
		s.due = append(s.due, len(s.left)-1)
	}
	return seen
}

// leastBehind is how many of the first requests no loss may undo, when the
// first n acts of a call have taken place.
func (s *story) leastBehind(acts []api.Act, n int) int {
	s.t.Helper()
	sends := countSends(acts[:n])
	if sends > len(s.due) {
		s.t.Fatalf("P8: %d answers, want at most %d", sends, len(s.due))
	}
	if n == len(acts) && s.m.unsaved == 0 {
		return len(s.left) - 1
	}
	if sends > 0 {
		return max(s.least, s.due[sends-1])
	}
	return s.least
}

func countSends(acts []api.Act) int {
	sends := 0
	for _, a := range acts {
		if a.Kind == api.Send {
			sends++
		}
	}
	return sends
}

// behind lets the power go within the acts of a call; then they take place, or
// the power has really gone.
func (s *story) behind(what string, acts []api.Act, seen []string) {
	s.t.Helper()
	clear(s.o.known)
	if s.every {
		for n, left := range s.power.losses(acts) {
			s.wantsLeft(what, acts, n, left)
		}
	}
	n, left := s.power.drawLoss(s.r, acts)
	s.wantsLeft(what, acts, n, left)
	if s.rare > 0 && s.r.Intn(s.rare) == 0 {
		s.lose(left)
		return
	}
	least := s.leastBehind(acts, len(acts))
	s.wants(what, s.did(acts), seen...)
	s.power = s.power.behind(acts)
	s.due, s.least = s.due[countSends(acts):], least
}

// wantsLeft checks a device that is opened with the disk that a loss has left.
func (s *story) wantsLeft(what string, acts []api.Act, n int, disk []string) {
	s.t.Helper()
	least := s.leastBehind(acts, n)
	if kept := s.o.kept(disk, s.more); !slices.Contains(s.left[least:], kept) {
		s.t.Fatalf("P9: %s: the power went behind %d of %d acts, and %d of %d requests were safe: %x, want one of %x",
			what, n, len(acts), least, len(s.left)-1, kept, s.left[least:])
	}
}

// lose goes on with the disk that a loss has left, and may lose the power some
// more times while the device is opened.
func (s *story) lose(disk []string) {
	s.t.Helper()
	s.disk = slices.Clone(disk)
	for s.r.Intn(2) == 0 {
		_, acts := s.o.open(s.disk)
		_, s.disk = medium{safe: s.disk}.drawLoss(s.r, acts)
	}
	s.begin()
}

// feedsStream lets requests come over a Stream with one Feed.
func (s *story) feedsStream(line int, requests ...want) {
	s.t.Helper()
	bytes := ""
	var seen []string
	for _, w := range requests {
		bytes += onStream(w.mark, w.unit, w.body())
		seen = append(seen, s.takes(line, w)...)
	}
	acts, errno := s.d.Feed(line, bytes)
	if errno != api.OK {
		s.t.Fatalf("P8: Feed(%d): %d", line, errno)
	}
	s.behind("Feed", acts, seen)
}

// feedsSerial lets a request come over a Serial line on which none has come
// since the last tick.
func (s *story) feedsSerial(line int, w want) {
	s.t.Helper()
	if _, heard := s.heard[line]; heard {
		return
	}
	s.heard[line] = w
	acts, errno := s.d.Feed(line, onSerial(w.unit, w.body()))
	if errno != api.OK {
		s.t.Fatalf("P8: Feed(%d): %d", line, errno)
	}
	s.behind("Feed", acts, nil)
}

func (s *story) ticks() {
	s.t.Helper()
	var seen []string
	for line := range s.c.Lines {
		if w, heard := s.heard[line]; heard {
			seen = append(seen, s.takes(line, w)...)
		}
	}
	clear(s.heard)
	s.behind("Tick", s.d.Tick(), seen)
}

func (s *story) flushes() {
	s.t.Helper()
	s.behind("Flush", s.d.Flush(), s.m.flush())
}

func (s *story) checkpoints() {
	s.t.Helper()
	s.behind("Checkpoint", s.d.Checkpoint(), s.m.flush())
}

// step is a call that is drawn; of what it is asked much is written.
func (s *story) step() {
	s.t.Helper()
	line := s.r.Intn(len(s.c.Lines))
	switch k := s.r.Intn(10); {
	case k == 0:
		s.flushes()
	case k == 1:
		s.checkpoints()
	case k <= 3:
		s.ticks()
	case s.c.Lines[line] == api.Serial:
		w := randomRequest(s.r, s.c)
		if s.r.Intn(3) == 0 {
			w.unit = 0
		}
		s.feedsSerial(line, w)
	default:
		requests := []want{randomRequest(s.r, s.c)}
		for s.r.Intn(3) == 0 {
			requests = append(requests, randomRequest(s.r, s.c))
		}
		s.feedsStream(line, requests...)
	}
}

func randomRequest(r *rand.Rand, c api.Config) want {
	if r.Intn(4) == 0 {
		return randomWant(r, c.Unit)
	}
	return randomWrite(r, c)
}

// randomWrite is a request that writes some entries that there are, or all,
// over the edge of what is kept as it comes. No table may be empty.
func randomWrite(r *rand.Rand, c api.Config) want {
	w := want{
		function: []int{5, 6, 15, 16, 22, 23}[r.Intn(6)],
		count:    1, unit: c.Unit, mark: r.Intn(65536),
	}
	size, values := c.Sizes[api.Holders], 65536
	if w.function == 5 || w.function == 15 {
		size, values = c.Sizes[api.Coils], 2
	}
	w.to = r.Intn(size)
	many := 1 + r.Intn(size-w.to)
	switch {
	case w.function == 5 || w.function == 6:
		many = 1
	case w.function == 22:
		many = 2
	case r.Intn(2) == 0:
		w.to, many = 0, size
	}
	for range many {
		w.values = append(w.values, r.Intn(values))
	}
	return w
}
