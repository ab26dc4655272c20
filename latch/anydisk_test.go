package latch_test

import (
	"math/rand"
	"slices"
	"strings"
	"testing"

	"latch/api"
	"latch/latch"
)

// strange is a way to fill the sectors of a disk with what no device with the
// config c has left there.
type strange struct {
	name string
	fill func(t *testing.T, r *rand.Rand, c api.Config, sectors int) []string
}

func stranges() []strange {
	return []strange{
		{"noughts", filled("\x00")},
		{"ones", filled("\xff")},
		{"bytes of 1", filled("\x01")},
		{"bytes of 2", filled("\x02")},
		{"bytes of 3", filled("\x03")},
		{"any bytes", drawn(256)},
		{"few bytes", drawn(3)},
		{"sectors of one byte each", plainSectors},
		{"of another config", otherConfig},
		{"of a loss, with bytes changed", changedBytes},
		{"of a loss, with ends changed", changedEnds},
		{"of several times", severalTimes},
	}
}

func filled(s string) func(*testing.T, *rand.Rand, api.Config, int) []string {
	return func(_ *testing.T, _ *rand.Rand, _ api.Config, sectors int) []string {
		return slices.Repeat([]string{strings.Repeat(s, api.MaxSector)}, sectors)
	}
}

// drawn are bytes of which there are few or many.
func drawn(values int) func(*testing.T, *rand.Rand, api.Config, int) []string {
	return func(_ *testing.T, r *rand.Rand, _ api.Config, sectors int) []string {
		disk := make([]string, sectors)
		for i := range disk {
			b := make([]byte, api.MaxSector)
			for j := range b {
				b[j] = byte(r.Intn(values))
			}
			disk[i] = string(b)
		}
		return disk
	}
}

func plainSectors(_ *testing.T, r *rand.Rand, _ api.Config, sectors int) []string {
	disk := make([]string, sectors)
	for i := range disk {
		disk[i] = strings.Repeat(string([]byte{byte(r.Intn(5))}), api.MaxSector)
	}
	return disk
}

// lived is a device that has been used for a while and lost the power a few
// times.
func lived(t *testing.T, r *rand.Rand, c api.Config, sectors int) *story {
	t.Helper()
	s := newStory(t, c, blank(sectors), r.Int())
	s.every, s.more, s.rare = false, 0, 9
	for range 10 + r.Intn(20) {
		s.step()
	}
	return s
}

// lostDisk is what a loss of power has left of one that lived.
func lostDisk(t *testing.T, r *rand.Rand, c api.Config, sectors int) []string {
	t.Helper()
	s := lived(t, r, c, sectors)
	body := setHolders(0, dense(c.Sizes[api.Holders], r.Intn(250))...).body()
	acts, _ := s.d.Feed(0, onStream(1, 1, body))
	acts = append(acts, s.d.Flush()...)
	_, left := s.power.drawLoss(r, acts)
	return left
}

func otherConfig(t *testing.T, r *rand.Rand, c api.Config, sectors int) []string {
	t.Helper()
	all := keeping()
	for {
		other := all[r.Intn(len(all))]
		other.Coils, other.Holds = r.Intn(other.Sizes[0]+1), r.Intn(other.Sizes[2]+1)
		need, _ := latch.Need(other)
		if need <= sectors && (other.Coils != c.Coils || other.Holds != c.Holds) {
			return lostDisk(t, r, other, sectors)
		}
	}
}

func changedBytes(t *testing.T, r *rand.Rand, c api.Config, sectors int) []string {
	t.Helper()
	disk := lostDisk(t, r, c, sectors)
	for range 1 + r.Intn(6) {
		change(disk, r.Intn(sectors), r.Intn(api.MaxSector), byte(r.Intn(256)))
	}
	return disk
}

// changedEnds changes the bytes by which a sector could say that it is whole.
func changedEnds(t *testing.T, r *rand.Rand, c api.Config, sectors int) []string {
	t.Helper()
	disk := lostDisk(t, r, c, sectors)
	need, _ := latch.Need(c)
	for range 1 + r.Intn(6) {
		place := []int{0, 1, 62, 63}[r.Intn(4)]
		change(disk, r.Intn(need), place, byte(r.Intn(5)))
	}
	return disk
}

func change(disk []string, sector, place int, to byte) {
	s := disk[sector]
	disk[sector] = s[:place] + string([]byte{to}) + s[place+1:]
}

// severalTimes takes each sector from what the disk was at some time.
func severalTimes(t *testing.T, r *rand.Rand, c api.Config, sectors int) []string {
	t.Helper()
	s := lived(t, r, c, sectors)
	times := [][]string{slices.Clone(s.disk)}
	for range 5 {
		s.feedsStream(0, randomWrite(r, c))
		s.flushes()
		times = append(times, slices.Clone(s.disk))
	}
	disk := make([]string, sectors)
	for i := range disk {
		disk[i] = times[r.Intn(len(times))][i]
	}
	return disk
}

// eachStrange runs a test with some disks of each of these sorts, and with
// configs of which little and much is kept.
func eachStrange(t *testing.T, disks int, test func(t *testing.T, c api.Config, disk []string, seed int)) {
	for _, kind := range stranges() {
		t.Run(kind.name, func(t *testing.T) {
			t.Parallel()
			r := rand.New(rand.NewSource(1))
			for seed := range disks {
				c := keeping()[seed%3]
				c.Batch = []int{1, api.MaxBatch}[r.Intn(2)]
				need, _ := latch.Need(c)
				sectors := need + r.Intn(3)
				test(t, c, kind.fill(t, r, c, sectors), seed)
			}
		})
	}
}

// TestP11AnyDisk opens a device; what it has then is what it has when the power
// goes at each act of that, and once more.
func TestP11AnyDisk(t *testing.T) {
	eachStrange(t, 60, func(t *testing.T, c api.Config, disk []string, seed int) {
		o := newOpener(t, c, rand.New(rand.NewSource(int64(seed))))
		kept := o.kept(disk, 2)
		d, acts := o.open(disk)
		if now := keptOf(t, d, c); now != kept {
			t.Errorf("P11: opened again: %x, want %x", now, kept)
		}
		r := &rig{t: t, c: c, d: d, disk: slices.Clone(disk)}
		r.did(acts)
		if now := o.kept(r.disk, 0); now != kept {
			t.Errorf("P11: opened anew: %x, want %x", now, kept)
		}
	})
}

// TestP11WrittenBehindAnyDisk writes then, and lets the power go at each act.
func TestP11WrittenBehindAnyDisk(t *testing.T) {
	eachStrange(t, 15, func(t *testing.T, c api.Config, disk []string, seed int) {
		s := newStory(t, c, disk, seed)
		s.o.r = s.r
		s.every = c.Holds < 50 || seed == 2
		s.feedsStream(0, setHolders(0, dense(c.Sizes[api.Holders], 1)...))
		s.feedsStream(0, setCoils(c.Coils-1, 1, 1), setHolders(1, 2))
		s.flushes()
		s.feedsStream(0, setHolders(0, dense(c.Sizes[api.Holders], 2)...))
		s.checkpoints()
	})
}

// TestP11LivedBehindAnyDisk goes on for long, with losses as they come.
func TestP11LivedBehindAnyDisk(t *testing.T) {
	eachStrange(t, 60, func(t *testing.T, c api.Config, disk []string, seed int) {
		s := newStory(t, c, disk, seed)
		s.every, s.rare, s.o.r = false, 5, s.r
		for range 40 {
			s.step()
		}
	})
}

// TestP11NothingKept opens disks of all sorts with a config that keeps nothing.
func TestP11NothingKept(t *testing.T) {
	eachStrange(t, 24, func(t *testing.T, c api.Config, disk []string, seed int) {
		c.Coils, c.Holds = 0, 0
		s := newStory(t, c, disk, seed)
		s.feedsStream(0, setHolders(0, 5), setCoils(0, 1), readHolders(0, 1))
		s.flushes()
		s.checkpoints()
	})
}

// TestP11EntriesInThePlaceOfNoughts finds, of disks that hold anything, one
// with which the device has other entries than noughts, and reads them over a
// line: they are answered, so no loss may undo them.
func TestP11EntriesInThePlaceOfNoughts(t *testing.T) {
	found := 0
	for seed := range 200 {
		r := rand.New(rand.NewSource(int64(seed)))
		c := keeping()[seed%3]
		sectors, _ := latch.Need(c)
		s := newStory(t, c, plainSectors(t, r, c, sectors), seed)
		s.o.r, s.every = s.r, false
		if strings.Trim(s.left[0], "\x00") == "" {
			continue
		}
		found++
		s.feedsStream(0, readHolders(0, c.Holds))
		s.feedsStream(0, setHolders(0, 1))
		s.flushes()
		s.feedsStream(0, want{function: 22, to: 0, values: []int{0xff00, 0x00ff}, unit: 1})
		s.flushes()
	}
	if found == 0 {
		t.Error("there is no such disk among these")
	}
}
