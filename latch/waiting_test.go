package latch_test

import (
	"fmt"
	"slices"
	"testing"

	"latch/api"
)

// TestP8Example is the document's.
func TestP8Example(t *testing.T) {
	r := newRig(t, api.Config{Sizes: [4]int{0, 0, 10, 0}, Holds: 5, Unit: 1, Lines: []int{0}, Batch: 3})
	r.wants("P8: volatile", r.ask("06 0007 0009"), r.answer("06 0007 0009"))
	r.wants("P8: kept", r.ask("06 0002 0009"))
	r.wants("P8: behind it", r.ask("03 0007 0001"))
	r.wants("P8: Flush", r.flush(), "safe", r.answer("06 0002 0009"), r.answer("03 02 0009"))
	r.open()
	r.wantsEntries("P8: opened anew", api.Holders, 0, 0, 9, 0, 0, 0, 0, 0, 0, 0)
}

// TestP8WhatWaits asks for each kind of write, with its last kept entry, and
// with the first volatile one: of these only the first makes an answer wait.
func TestP8WhatWaits(t *testing.T) {
	for _, pair := range [][2]string{
		{"05 0009 ff00", "05 000a ff00"},
		{"06 0004 0001", "06 0005 0001"},
		{"0f 0009 0002 01 03", "0f 000a 0002 01 03"},
		{"10 0004 0002 04 0001 0001", "10 0005 0002 04 0001 0001"},
		{"16 0004 0000 0001", "16 0005 0000 0001"},
		{"17 0000 0001 0004 0002 04 0001 0001", "17 0000 0001 0005 0001 02 0001"},
	} {
		r := newRig(t, plain())
		r.wants("P8: kept: "+pair[0], r.ask(pair[0]))
		if seen := r.flush(); len(seen) != 2 || seen[0] != "safe" {
			t.Errorf("P8: Flush behind %s: %q", pair[0], seen)
		}
		if seen := r.ask(pair[1]); len(seen) != 1 || seen[0] == "safe" {
			t.Errorf("P8: volatile: %s: %q", pair[1], seen)
		}
		r.wants("P8: Flush behind "+pair[1], r.flush())
	}
}

func TestP8SameValueWaits(t *testing.T) {
	r := newRig(t, plain())
	for _, body := range []string{"06 0000 0000", "05 0000 0000", "16 0000 ffff 0000"} {
		r.wants("P8: "+body, r.ask(body))
		r.wants("P8: Flush behind "+body, r.flush(), "safe", r.answer(body))
	}
}

// TestP8ReadsDoNotMakeWait reads kept entries, and is refused a kept write.
func TestP8ReadsDoNotMakeWait(t *testing.T) {
	r := newRig(t, plain())
	r.asks([][2]string{
		{"01 0000 0001", "01 01 00"},
		{"03 0000 0001", "03 02 0000"},
		{"06 0000", "86 03"},
		{"10 0004 0007 0e" + "0001000100010001000100010001", "90 02"},
		{"17 0009 0002 0000 0001 02 0005", "97 02"},
	})
	r.wants("P8: Flush", r.flush())
	r.wantsNoughts("P8: what is refused")
}

// TestP8AllWaitBehindAKeptWrite asks for answers of all sorts, on all lines,
// behind a kept write; each tells what was so when its request was taken.
func TestP8AllWaitBehindAKeptWrite(t *testing.T) {
	c := plain()
	c.Batch = 8
	r := newRig(t, c)
	r.wants("P8: kept", r.ask("06 0002 0001"))
	r.wants("P8: a read", r.feed(2, onStream(7, 1, raw(t, "03 0002 0001"))))
	r.wants("P8: volatile", r.ask("06 0009 0004"))
	r.wants("P8: refused", r.ask("06 000a 0000"))
	r.wants("P8: kept again", r.ask("06 0002 0002"))
	r.feed(3, onSerial(1, raw(t, "03 0002 0001")))
	r.feed(1, onSerial(1, raw(t, "06 0002 0003")))
	r.wants("P8: Tick", r.tick())
	r.wantsEntries("P8: done when taken", api.Holders, 0, 0, 3, 0, 0, 0, 0, 0, 0, 4)
	r.wants("P8: Flush", r.flush(), "safe",
		r.answer("06 0002 0001"),
		sent(2, onStream(7, 1, raw(t, "03 02 0001"))),
		r.answer("06 0009 0004"),
		r.answer("86 02"),
		r.answer("06 0002 0002"),
		sent(1, onSerial(1, raw(t, "06 0002 0003"))),
		sent(3, onSerial(1, raw(t, "03 02 0003"))))
	r.wants("P8: Flush again", r.flush())
	r.wants("P8: behind the Flush", r.ask("03 0002 0001"), r.answer("03 02 0003"))
}

// TestP8BatchOfAnswers lets one kept write wait, and reads behind it.
func TestP8BatchOfAnswers(t *testing.T) {
	for batch := 1; batch <= 8; batch++ {
		c := plain()
		c.Batch = batch
		r := newRig(t, c)
		for turn := range 3 {
			want := []string{"safe"}
			for i := range batch {
				body, told := "06 0000 0007", "06 0000 0007"
				if i > 0 {
					body, told = "03 0000 0001", "03 02 0007"
				}
				want = append(want, r.answer(told))
				seen := r.ask(body)
				if i < batch-1 {
					r.wants(fmt.Sprintf("P8: Batch %d, turn %d, %d wait", batch, turn, i+1), seen)
				} else {
					r.wants(fmt.Sprintf("P8: Batch %d, turn %d", batch, turn), seen, want...)
				}
			}
		}
		r.wants("P8: Flush", r.flush())
	}
}

// TestP8BatchOfWrites writes to all, so that nothing waits but what was written.
func TestP8BatchOfWrites(t *testing.T) {
	for batch := 1; batch <= 8; batch++ {
		c := plain()
		c.Batch = batch
		r := newRig(t, c)
		for i := range 3 * batch {
			r.feed(1, onSerial(0, raw(t, "06 0007 0001")))
			r.wants("P8: a volatile write to all", r.tick())
			r.feed(1, onSerial(0, raw(t, "06 0002 0001")))
			seen := r.tick()
			if (i+1)%batch == 0 {
				r.wants(fmt.Sprintf("P8: Batch %d, write %d", batch, i+1), seen, "safe")
			} else {
				r.wants(fmt.Sprintf("P8: Batch %d, write %d", batch, i+1), seen)
			}
		}
	}
}

// TestP8BatchWithin flushes between the requests of one Feed and of one Tick.
func TestP8BatchWithin(t *testing.T) {
	c := plain()
	c.Batch = 2
	r := newRig(t, c)
	one := onStream(mark, 1, raw(t, "06 0000 0001"))
	read := onStream(mark, 1, raw(t, "03 0000 0001"))
	wrote, told := r.answer("06 0000 0001"), r.answer("03 02 0001")
	r.wants("P8: Feed", r.feed(0, read+one+read+read+one+one+one),
		r.answer("03 02 0000"), "safe", wrote, told, told, "safe", wrote, wrote)
	r.feed(1, onSerial(1, raw(t, "03 0000 0001")))
	r.feed(3, onSerial(1, raw(t, "03 0000 0001")))
	onLine := onSerial(1, raw(t, "03 02 0001"))
	r.wants("P8: Tick", r.tick(), "safe", wrote, sent(1, onLine), sent(3, onLine))
}

func TestP8Checkpoint(t *testing.T) {
	r := newRig(t, plain())
	r.wants("P8: kept", r.ask("0f 0009 0002 01 01"))
	r.wants("P8: kept", r.ask("06 0000 0005"))
	seen := r.did(r.d.Checkpoint())
	r.wants("P8: Checkpoint", slices.Compact(seen), "safe", r.answer("0f 0009 0002"), r.answer("06 0000 0005"))
	r.wants("P8: Flush behind it", r.flush())
	for range 5 {
		for _, seen := range r.did(r.d.Checkpoint()) {
			if seen != "safe" {
				t.Errorf("P8: Checkpoint with nothing that waits: %s", seen)
			}
		}
	}
	r.wants("P8: behind it", r.ask("03 0000 0001"), r.answer("03 02 0005"))
	r.open()
	r.wantsEntries("P8: opened anew", api.Holders, 5, 0, 0, 0, 0, 0, 0, 0, 0, 0)
}
