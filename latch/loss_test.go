package latch_test

import (
	"fmt"
	"slices"
	"testing"

	"latch/api"
	"latch/latch"
)

// keeping are configs of which more and more is kept, so that it lies in one
// sector and in several; the last entries of each table are volatile.
func keeping() []api.Config {
	var list []api.Config
	for _, n := range [][4]int{{5, 3, 6, 4}, {12, 9, 40, 33}, {60, 58, 60, 59}} {
		c := plain()
		c.Sizes = [4]int{n[0], 3, n[2], 3}
		c.Coils, c.Holds = n[1], n[3]
		list = append(list, c)
	}
	return list
}

func blankFor(t *testing.T, c api.Config) []string {
	t.Helper()
	need, errno := latch.Need(c)
	if errno != api.OK {
		t.Fatalf("P7: Need: %d", errno)
	}
	return blank(need)
}

// eachKeeping runs a test with each of these configs, and with the least and
// the greatest Batch.
func eachKeeping(t *testing.T, test func(t *testing.T, c api.Config)) {
	for _, c := range keeping() {
		for _, batch := range []int{1, api.MaxBatch} {
			c.Batch = batch
			t.Run(fmt.Sprintf("%d,%d,%d", c.Coils, c.Holds, batch), func(t *testing.T) {
				t.Parallel()
				test(t, c)
			})
		}
	}
}

// setCoils writes coils from an address on; setHolders, holders.
func setCoils(to int, values ...int) want {
	return want{function: 15, to: to, values: values, unit: 1, mark: to}
}

func setHolders(to int, values ...int) want {
	return want{function: 16, to: to, values: values, unit: 1, mark: to}
}

func readHolders(from, count int) want {
	return want{function: 3, from: from, count: count, unit: 1, mark: from}
}

// dense are values no byte of which is 0, nor what it is with another turn: so
// a torn Write differs with each byte.
func dense(n, turn int) []int {
	var list []int
	for i := range n {
		list = append(list, (1+(turn+i)%250)<<8|1+(3*turn+7*i)%250)
	}
	return list
}

// TestP9Example is the document's, with the power going at each act of it.
func TestP9Example(t *testing.T) {
	c := api.Config{Sizes: [4]int{0, 0, 10, 0}, Holds: 5, Unit: 1, Lines: []int{0}, Batch: 3}
	r := newRig(t, c)
	r.ask("06 0007 0009")
	r.ask("06 0002 0009")
	r.ask("03 0007 0001")
	ahead, behind := make([]int, 10), make([]int, 10)
	behind[2] = 9
	r.openedWith(r.disk, ahead)
	acts := r.d.Flush()
	if countSends(acts) != 2 {
		t.Fatalf("P8: Flush: %v", acts)
	}
	firstSend := slices.IndexFunc(acts, func(a api.Act) bool { return a.Kind == api.Send })
	for n, left := range (medium{safe: r.disk}).losses(acts) {
		if n > firstSend {
			r.openedWith(left, behind)
		} else {
			r.openedWith(left, ahead, behind)
		}
	}
}

// openedWith asks for one of some lists of holders.
func (r *rig) openedWith(disk []string, want ...[]int) {
	r.t.Helper()
	d, _, _ := latch.Open(r.c, disk)
	holders, _ := d.Look(api.Holders)
	if !slices.ContainsFunc(want, func(l []int) bool { return slices.Equal(l, holders) }) {
		r.t.Errorf("P9: %v, want one of %v", holders, want)
	}
}

// TestP9CoilsAndHolders writes both, by turns and with one Feed, within what is
// kept and over its edge.
func TestP9CoilsAndHolders(t *testing.T) {
	eachKeeping(t, func(t *testing.T, c api.Config) {
		s := newStory(t, c, blankFor(t, c), 1)
		s.o.r = s.r
		overCoils := setCoils(c.Coils-1, 1, 1)
		overHolders := setHolders(c.Holds-2, 0x1234, 0x5678, 0x9abc)
		s.feedsStream(0, setHolders(0, dense(c.Sizes[api.Holders], 1)...))
		s.feedsStream(2, setCoils(0, 1, 0, 1))
		s.feedsStream(0, overHolders)
		s.flushes()
		s.feedsStream(0, overCoils, setHolders(1, 0xffff, 0), readHolders(0, 3), setHolders(c.Holds, 7), overHolders)
		s.checkpoints()
	})
}

// TestP9OneFeedManyFlushes lets one call write the same sectors several times.
func TestP9OneFeedManyFlushes(t *testing.T) {
	for _, c := range keeping()[:2] {
		for batch, requests := range map[int]int{1: 5, 2: 7, 8: 25} {
			c.Batch = batch
			s := newStory(t, c, blankFor(t, c), batch)
			var list []want
			for i := range requests {
				list = append(list, setHolders(i%3, 257*i+1, 257*i+2))
			}
			s.feedsStream(0, list...)
			s.flushes()
			s.feedsStream(0, list[1:]...)
		}
	}
}

// TestP9ToAll writes what is kept with requests that are not answered, so that
// only a flush tells that they are safe.
func TestP9ToAll(t *testing.T) {
	eachKeeping(t, func(t *testing.T, c api.Config) {
		s := newStory(t, c, blankFor(t, c), 2)
		s.every = c.Holds < 50
		toAll := func(w want) want { w.unit = 0; return w }
		for i := range 9 {
			s.feedsSerial(1, toAll(setHolders(c.Holds-1, i+1, i+2)))
			s.feedsSerial(3, toAll(setCoils(0, 1, i%2)))
			s.ticks()
		}
		s.feedsStream(0, readHolders(0, 2))
		s.feedsSerial(3, toAll(setHolders(0, 5)))
		s.ticks()
		s.flushes()
	})
}

// TestP9EachLoss draws calls, and lets the power go in all ways at each act of
// each of them, twice more while the device is opened, and goes on with one of
// the disks that are left.
func TestP9EachLoss(t *testing.T) {
	eachKeeping(t, func(t *testing.T, c api.Config) {
		steps := map[int]int{4: 600, 33: 400, 59: 120}[c.Holds]
		s := newStory(t, c, append(blankFor(t, c), blank(2)...), c.Batch)
		s.o.r, s.rare = s.r, 4
		for range steps {
			s.step()
		}
	})
}

// TestP9ManyLosses goes on with one loss of many, for long.
func TestP9ManyLosses(t *testing.T) {
	for seed := range 400 {
		c := keeping()[seed%3]
		c.Batch = 1 + seed%8
		s := newStory(t, c, blankFor(t, c), seed)
		s.every, s.rare, s.o.r = false, 6, s.r
		for range 80 {
			s.step()
		}
	}
}

// TestP9WhatWaitedIsGone has half a request and an answer on their way when the
// power goes.
func TestP9WhatWaitedIsGone(t *testing.T) {
	c := plain()
	r := newRig(t, c)
	half := onStream(mark, 1, raw(t, "06 0001 0001"))
	r.feed(0, half+half[:9])
	r.feed(1, onSerial(1, raw(t, "06 0002 0001")))
	r.open()
	r.wants("P9: Flush", r.flush())
	r.wants("P9: Tick", r.tick())
	r.wants("P9: a request from its beginning", r.ask("03 0000 0001"), r.answer("03 02 0000"))
	r.wantsNoughts("P9: what waited")
}

// TestP9VolatileIsGone writes and puts what is not kept.
func TestP9VolatileIsGone(t *testing.T) {
	for _, c := range keeping() {
		r := newRig(t, c)
		r.d.Put(api.Switches, 2, 1)
		r.d.Put(api.Inputs, 2, 65535)
		r.feed(0, onStream(1, 1, setHolders(c.Holds-1, 8, 9).body()))
		r.feed(0, onStream(1, 1, setCoils(c.Coils-1, 1, 1).body()))
		r.flush()
		r.open()
		coils, holders := make([]int, c.Sizes[api.Coils]), make([]int, c.Sizes[api.Holders])
		coils[c.Coils-1], holders[c.Holds-1] = 1, 8
		r.wantsEntries("P9: volatile", api.Coils, coils...)
		r.wantsEntries("P9: volatile", api.Holders, holders...)
		r.wantsEntries("P9: volatile", api.Switches, 0, 0, 0)
		r.wantsEntries("P9: volatile", api.Inputs, 0, 0, 0)
	}
}

// TestP10LostWhileOpened goes through each loss of a flush and each loss of
// four times that the device is opened with what that leaves.
func TestP10LostWhileOpened(t *testing.T) {
	for _, c := range keeping()[:2] {
		c.Batch = 1
		s := newStory(t, c, blankFor(t, c), 3)
		s.more = 4
		for i := range 5 {
			s.feedsStream(0, setHolders(0, dense(c.Sizes[api.Holders], i)...))
			s.feedsStream(0, setCoils(0, 1, i%2))
		}
	}
}

// TestP10LostThenWritten loses the power while the device is opened with what
// a loss has left, writes then, and loses the power at each act of that.
func TestP10LostThenWritten(t *testing.T) {
	c := keeping()[1]
	c.Batch = 1
	s := newStory(t, c, blankFor(t, c), 4)
	s.feedsStream(0, setHolders(0, dense(40, 0)...), setCoils(0, 1))
	acts, _ := s.d.Feed(0, onStream(1, 1, setHolders(0, dense(40, 1)...).body()))
	tried := 0
	for _, left := range s.power.losses(acts) {
		_, opening := s.o.open(left)
		_, left = medium{safe: left}.drawLoss(s.r, opening)
		again := newStory(t, c, left, tried)
		again.o.r, again.every = again.r, tried%16 == 0
		again.feedsStream(0, setHolders(0, dense(40, 2)...))
		again.feedsStream(0, setHolders(0, dense(40, 3)...))
		tried++
	}
}

// TestP10FlushedAndOpenedAnew opens the device anew again and again, by a
// Flush, by a Checkpoint, and by as many requests as flush by themselves.
func TestP10FlushedAndOpenedAnew(t *testing.T) {
	eachKeeping(t, func(t *testing.T, c api.Config) {
		s := newStory(t, c, blankFor(t, c), 5)
		s.every = false
		calls := []func(){s.flushes, s.checkpoints, func() {
			for range c.Batch {
				s.feedsStream(0, setHolders(0, s.r.Intn(65536)))
			}
		}}
		for turn := range 30 {
			for range s.r.Intn(2 * c.Batch) {
				s.feedsStream(0, randomWrite(s.r, c))
			}
			s.flushes()
			calls[turn%3]()
			kept := s.m.kept()
			for range 1 + turn%2 {
				s.begin()
				if s.left[0] != kept {
					t.Fatalf("P10: turn %d: opened anew: %x, want %x", turn, s.left[0], kept)
				}
			}
		}
	})
}
