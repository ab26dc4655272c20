package latch_test

import (
	"fmt"
	"math"
	"slices"
	"strings"
	"testing"

	"latch/api"
	"latch/latch"
)

// bounded is a number of a config, with the least and the greatest it may be.
type bounded struct {
	name        string
	set         func(c *api.Config, n int)
	least, most int
}

func numbers() []bounded {
	list := []bounded{
		{"Coils", func(c *api.Config, n int) { c.Coils = n }, 0, 20},
		{"Holds", func(c *api.Config, n int) { c.Holds = n }, 0, 10},
		{"Unit", func(c *api.Config, n int) { c.Unit = n }, 1, 247},
		{"a line", func(c *api.Config, n int) { c.Lines = []int{0, n} }, 0, 1},
		{"Batch", func(c *api.Config, n int) { c.Batch = n }, 1, 8},
	}
	for table := range 4 {
		set := func(c *api.Config, n int) {
			c.Coils, c.Holds, c.Sizes[table] = 0, 0, n
		}
		list = append(list, bounded{fmt.Sprintf("Sizes[%d]", table), set, 0, 60})
	}
	return list
}

func wantsConfig(t *testing.T, what string, c api.Config, right bool) {
	t.Helper()
	need, errno := latch.Need(c)
	d, acts, openErrno := latch.Open(c, blank(64))
	if right && (need < 1 || need > 64 || errno != api.OK) {
		t.Errorf("P7: %s: Need = %d, %d", what, need, errno)
	}
	if right && (d == nil || openErrno != api.OK) {
		t.Errorf("P7: %s: Open: %d", what, openErrno)
	}
	if !right && (need != 0 || errno != api.ErrConfig) {
		t.Errorf("P7: %s: Need = %d, %d, want ErrConfig", what, need, errno)
	}
	if !right && (d != nil || len(acts) != 0 || openErrno != api.ErrConfig) {
		t.Errorf("P7: %s: Open: %v, %d, want ErrConfig", what, acts, openErrno)
	}
}

func TestP7ConfigNumbers(t *testing.T) {
	for _, b := range numbers() {
		for _, n := range []int{math.MinInt, b.least - 1, b.least, b.most, b.most + 1, math.MaxInt} {
			c := plain()
			b.set(&c, n)
			wantsConfig(t, fmt.Sprintf("%s = %d", b.name, n), c, n >= b.least && n <= b.most)
		}
	}
}

func TestP7ConfigLines(t *testing.T) {
	for n := range 7 {
		c := plain()
		c.Lines = slices.Repeat([]int{api.Serial}, n)
		wantsConfig(t, fmt.Sprintf("%d lines", n), c, n >= 1 && n <= 4)
	}
	for place := range 4 {
		c := plain()
		c.Lines[place] = 2
		wantsConfig(t, fmt.Sprintf("line %d of no kind", place), c, false)
	}
}

func TestP7KeptOfOtherTables(t *testing.T) {
	c := plain()
	c.Sizes, c.Coils, c.Holds = [4]int{3, 60, 4, 60}, 4, 4
	wantsConfig(t, "4 of 3 coils", c, false)
	c.Coils, c.Holds = 3, 5
	wantsConfig(t, "5 of 4 holders", c, false)
	c.Holds = 4
	wantsConfig(t, "all of them", c, true)
}

func TestP7ZeroConfig(t *testing.T) {
	wantsConfig(t, "a zero config", api.Config{}, false)
}

func TestP7DiskSizes(t *testing.T) {
	for _, kept := range [][2]int{{0, 0}, {10, 5}, {60, 60}} {
		c := plain()
		c.Sizes = [4]int{60, 60, 60, 60}
		c.Coils, c.Holds = kept[0], kept[1]
		need, _ := latch.Need(c)
		for _, n := range []int{0, need - 1, need, need + 1, 64, 65, 1000} {
			right := n >= need && n <= 64
			d, acts, errno := latch.Open(c, blank(n))
			if right && (d == nil || errno != api.OK) {
				t.Errorf("P7: %d kept, %d sectors: %d", kept, n, errno)
			}
			if !right && (d != nil || len(acts) != 0 || errno != api.ErrDisk) {
				t.Errorf("P7: %d kept, %d sectors: %v, %d, want ErrDisk", kept, n, acts, errno)
			}
		}
	}
}

func TestP7SectorSizes(t *testing.T) {
	for place := range 64 {
		for _, size := range []int{0, 1, 63, 65, 128} {
			disk := blank(64)
			disk[place] = strings.Repeat("\x00", size)
			d, acts, errno := latch.Open(plain(), disk)
			if d != nil || len(acts) != 0 || errno != api.ErrDisk {
				t.Errorf("P7: %d bytes in the sector %d: %v, %d, want ErrDisk", size, place, acts, errno)
			}
		}
	}
}

func TestP1ConfigAheadOfDisk(t *testing.T) {
	c := plain()
	c.Batch = 0
	if d, acts, errno := latch.Open(c, nil); d != nil || len(acts) != 0 || errno != api.ErrConfig {
		t.Errorf("P1: %v, %d, want ErrConfig", acts, errno)
	}
}

func TestP7BlankDiskIsNoughts(t *testing.T) {
	for _, n := range []int{0, 1, 60} {
		c := plain()
		c.Sizes, c.Coils, c.Holds = [4]int{n, n, n, n}, n, n
		r := newRig(t, c)
		for table := range 4 {
			r.wantsEntries("P7: a blank disk", table, make([]int, n)...)
		}
	}
}

// TestP8FlushedIsOpenedAnew flushes each time, so that each copy on the disk
// is written several times.
func TestP8FlushedIsOpenedAnew(t *testing.T) {
	for _, kept := range [][2]int{{0, 1}, {1, 0}, {9, 27}, {8, 31}, {60, 60}} {
		c := plain()
		c.Sizes, c.Coils, c.Holds, c.Batch = [4]int{60, 60, 60, 60}, kept[0], kept[1], 1
		r := newRig(t, c)
		for turn := range 9 {
			r.fillBoth(turn)
			coils, holders := r.look(api.Coils), r.look(api.Holders)
			clear(coils[c.Coils:])
			clear(holders[c.Holds:])
			r.open()
			what := fmt.Sprintf("P8: %d kept, turn %d", kept, turn)
			r.wantsEntries(what, api.Coils, coils...)
			r.wantsEntries(what, api.Holders, holders...)
		}
	}
}

// fillBoth writes all coils and all holders, other values with each turn.
func (r *rig) fillBoth(turn int) {
	r.t.Helper()
	coils := fmt.Sprintf("0f 0000 003c 08 %s", strings.Repeat(fmt.Sprintf("%02x", 0x1d+25*turn), 8))
	holders := "10 0000 003c 78"
	for i := range 60 {
		holders += fmt.Sprintf("%04x", 1000*turn+257*i+1)
	}
	if n := len(r.ask(coils)) + len(r.ask(holders)); n < 3 {
		r.t.Fatalf("P8: %d things are to be seen", n)
	}
}
