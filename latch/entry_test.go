package latch_test

import (
	"fmt"
	"math"
	"slices"
	"strings"
	"testing"

	"latch/api"
	"latch/latch"
)

func TestP8PutEdges(t *testing.T) {
	for _, size := range []int{0, 1, 10, 60} {
		for table := -1; table <= 4; table++ {
			for _, address := range []int{math.MinInt, -1, 0, size - 1, size, 60, math.MaxInt} {
				for _, value := range []int{math.MinInt, -1, 0, 1, 2, 65535, 65536, math.MaxInt} {
					checkPut(t, size, table, address, value)
				}
			}
		}
	}
	checkPut(t, 10, math.MaxInt, 0, 0)
	checkPut(t, 10, math.MinInt, 0, 0)
}

func checkPut(t *testing.T, size, table, address, value int) {
	t.Helper()
	r := newRig(t, unkept(size))
	most := map[int]int{api.Switches: 1, api.Inputs: 65535}
	greatest, puts := most[table]
	right := puts && address >= 0 && address < size && value >= 0 && value <= greatest
	errno := r.d.Put(table, address, value)
	what := fmt.Sprintf("P8: Put(%d, %d, %d) of %d", table, address, value, size)
	if !right {
		if errno != api.ErrArg {
			t.Errorf("%s: %d, want ErrArg", what, errno)
		}
		r.wantsNoughts(what)
		return
	}
	if errno != api.OK {
		t.Errorf("%s: %d", what, errno)
	}
	want := make([]int, size)
	want[address] = value
	r.wantsEntries(what, table, want...)
}

// TestP8PutIsNotWaitedFor puts while an answer waits, and behind a flush.
func TestP8PutIsNotWaitedFor(t *testing.T) {
	r := newRig(t, plain())
	r.d.Put(api.Inputs, 0, 5)
	r.wants("P8: Flush", r.flush())
	r.wants("P8: a read", r.ask("04 0000 0001"), r.answer("04 02 0005"))
	r.ask("06 0000 0001")
	r.ask("04 0000 0001")
	r.d.Put(api.Inputs, 0, 6)
	r.wants("P8: read ahead of the Put", r.flush(), "safe", r.answer("06 0000 0001"), r.answer("04 02 0005"))
	r.open()
	r.wantsEntries("P8: volatile", api.Inputs, make([]int, 10)...)
}

func TestP8LookEdges(t *testing.T) {
	r := newRig(t, plain())
	for _, table := range []int{math.MinInt, -1, 4, 5, math.MaxInt} {
		if list, errno := r.d.Look(table); len(list) != 0 || errno != api.ErrArg {
			t.Errorf("P8: Look(%d): %v, %d, want ErrArg", table, list, errno)
		}
	}
	for table, size := range r.c.Sizes {
		r.wantsEntries("P8: Look", table, make([]int, size)...)
	}
}

func TestP2NothingHandedInIsKept(t *testing.T) {
	c := plain()
	need, _ := latch.Need(c)
	disk := blank(need)
	d, _, _ := latch.Open(c, disk)
	for i := range c.Lines {
		c.Lines[i] = 1 - c.Lines[i]
	}
	for i := range disk {
		disk[i] = strings.Repeat("\xff", 64)
	}
	r := &rig{t: t, c: plain(), d: d, disk: blank(need)}
	r.wants("P2: a Stream", r.ask("06 0007 0001"), r.answer("06 0007 0001"))
	r.feed(1, onSerial(1, raw(t, "06 0007 0002")))
	r.wants("P2: a Serial line", r.tick(), sent(1, onSerial(1, raw(t, "06 0007 0002"))))
}

func TestP2NothingHandedInIsChanged(t *testing.T) {
	c := plain()
	need, _ := latch.Need(c)
	disk := blank(need)
	for i := range disk {
		disk[i] = strings.Repeat("\x01", 64)
	}
	before := slices.Clone(disk)
	d, _, _ := latch.Open(c, disk)
	d.Feed(0, onStream(1, 1, "\x06\x00\x00\x00\x01"))
	d.Flush()
	if !slices.Equal(disk, before) || !slices.Equal(c.Lines, plain().Lines) {
		t.Errorf("P2: the disk or the config is changed")
	}
}

// TestP2WhatComesOutIsTheCallers spoils every list that comes out.
func TestP2WhatComesOutIsTheCallers(t *testing.T) {
	r := newRig(t, plain())
	r.ask("06 0000 0001")
	r.ask("06 0001 0002")
	for table := range 4 {
		list := r.look(table)
		for i := range list {
			list[i] = 77
		}
	}
	r.wantsEntries("P2: Look", api.Holders, 1, 2, 0, 0, 0, 0, 0, 0, 0, 0)
	acts := r.d.Flush()
	r.ask("06 0002 0003")
	again := r.d.Flush()
	kept := slices.Clone(again)
	for i := range acts {
		acts[i] = api.Act{Kind: 9}
	}
	_ = append(acts[:0], again...)
	if !slices.Equal(again, kept) {
		t.Errorf("P2: the acts of two calls share memory")
	}
	r.wants("P2: behind it", r.ask("03 0000 0003"), r.answer("03 06 0001 0002 0003"))
}

// TestP2TwoDevicesByTurns has one write where the other reads.
func TestP2TwoDevicesByTurns(t *testing.T) {
	first, second := newRig(t, plain()), newRig(t, plain())
	half := onStream(mark, 1, raw(t, readHolder))
	first.feed(0, half[:5])
	first.feed(1, onSerial(1, raw(t, "06 0007 0001")))
	second.wants("P2: kept", second.ask("06 0000 0009"))
	first.d.Put(api.Inputs, 3, 4)
	second.wants("P2: Tick", second.tick())
	first.wants("P2: half of a request", first.feed(0, half[5:]), first.answer(noughtRead))
	first.wants("P2: Flush", first.flush())
	first.wants("P2: Tick", first.tick(), sent(1, onSerial(1, raw(t, "06 0007 0001"))))
	second.wantsEntries("P2: Put", api.Inputs, make([]int, 10)...)
	second.feed(2, "\x00\x00\x01")
	first.wants("P2: broken elsewhere", first.feed(2, half), sent(2, onStream(mark, 1, raw(t, noughtRead))))
	second.wants("P2: Flush", second.flush(), "safe", second.answer("06 0000 0009"))
	first.wants("P2: kept elsewhere", first.ask(readHolder), first.answer(noughtRead))
	second.wants("P2: kept here", second.ask(readHolder), second.answer("03 02 0009"))
}

// TestP1AnyBytes lets bytes of all sorts come over lines of both kinds.
func TestP1AnyBytes(t *testing.T) {
	c := plain()
	c.Batch = 1
	for first := range 256 {
		for _, size := range []int{0, 1, 2, 3, 10, 255, 256, 257, 5000} {
			r := newRig(t, c)
			s := strings.Repeat(string([]byte{byte(first), byte(size)}), size)
			for line := range 4 {
				r.feed(line, s)
				r.feed(line, onStream(first, 1, s[:min(len(s), 253)]))
				r.tick()
				r.feed(line, onSerial(1, s))
				r.tick()
			}
			r.flush()
		}
	}
}
