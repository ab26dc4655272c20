package store

import (
	"math/rand"
	"slices"
	"strings"
	"testing"

	"latch/api"
)

func blank(sectors int) []string {
	return slices.Repeat([]string{strings.Repeat("\x00", 64)}, sectors)
}

func randomText(r *rand.Rand, n int) string {
	b := make([]byte, n)
	r.Read(b)
	return string(b)
}

// sizes are at the edges of what one, two and three sectors hold, and the
// greatest that a device has.
var sizes = []int{0, 1, 2, 61, 62, 63, 123, 124, 125, 128}

func TestP7Need(t *testing.T) {
	for size, want := range map[int]int{0: 2, 1: 2, 62: 2, 63: 4, 124: 4, 125: 6, 128: 6} {
		if got := Need(size); got != want {
			t.Errorf("Need(%d) = %d, want %d", size, got, want)
		}
	}
}

// segments are the Writes of acts, cut at each Sync.
func segments(t *testing.T, acts []api.Act, sectors int) [][]api.Act {
	t.Helper()
	list := [][]api.Act{nil}
	for _, a := range acts {
		last := len(list) - 1
		switch {
		case a == api.Act{Kind: api.Sync}:
			list = append(list, nil)
		case a.Kind != api.Write || len(a.Data) != 64 || a.Sector < 0 || a.Sector >= sectors || a.Line != 0:
			t.Fatalf("P6: %v", a)
		case slices.ContainsFunc(list[last], func(b api.Act) bool { return b.Sector == a.Sector }):
			t.Fatalf("the sector %d is written twice ahead of a Sync", a.Sector)
		default:
			list[last] = append(list[last], a)
		}
	}
	if last := list[len(list)-1]; len(last) > 0 {
		t.Fatalf("there is no Sync behind %v", last)
	}
	return list
}

func done(t *testing.T, disk []string, acts []api.Act) []string {
	t.Helper()
	after := slices.Clone(disk)
	for _, segment := range segments(t, acts, len(disk)) {
		for _, a := range segment {
			after[a.Sector] = a.Data
		}
	}
	return after
}

// lost are all disks that a loss of power within acts may leave: of those that
// no Sync stands behind any may be there, and one of them may be torn.
func lost(t *testing.T, disk []string, acts []api.Act) [][]string {
	t.Helper()
	var list [][]string
	before := slices.Clone(disk)
	for _, segment := range segments(t, acts, len(disk)) {
		for choice := range 1 << len(segment) {
			some := slices.Clone(before)
			for i, a := range segment {
				if choice>>i&1 == 1 {
					some[a.Sector] = a.Data
				}
			}
			list = append(list, some)
			for i, a := range segment {
				if choice>>i&1 == 0 {
					list = append(list, torn(some, a)...)
				}
			}
		}
		for _, a := range segment {
			before[a.Sector] = a.Data
		}
	}
	return list
}

func torn(disk []string, a api.Act) [][]string {
	var list [][]string
	for first := 1; first < 64; first++ {
		some := slices.Clone(disk)
		some[a.Sector] = a.Data[:first] + some[a.Sector][first:]
		list = append(list, some)
	}
	return list
}

// explorer opens, saves and loses power, and then goes on with some of the
// disks that are left.
type explorer struct {
	t    *testing.T
	r    *rand.Rand
	size int
}

func (e *explorer) read(disk []string) string {
	_, data, _ := Open(e.size, disk)
	return data
}

// explore begins with a disk that holds data. Each disk that a loss of power
// can leave is read; some are gone on with.
func (e *explorer) explore(disk []string, data string, depth int) {
	e.t.Helper()
	s, got, acts := Open(e.size, disk)
	if got != data {
		e.t.Fatalf("P10: opened: %x, want %x", got, data)
	}
	left := lost(e.t, disk, acts)
	for _, l := range left {
		if e.read(l) != data {
			e.t.Fatalf("P10: power lost while opening: %x, want %x", e.read(l), data)
		}
	}
	if depth == 0 {
		return
	}
	if len(acts) > 0 {
		e.explore(left[e.r.Intn(len(left))], data, depth-1)
	}
	disk = done(e.t, disk, acts)
	for range 1 + e.r.Intn(4) {
		fresh := randomText(e.r, e.size)
		acts = s.Save(fresh)
		left = lost(e.t, disk, acts)
		for _, l := range left {
			if now := e.read(l); now != data && now != fresh {
				e.t.Fatalf("P9: %x, neither %x nor %x", now, data, fresh)
			}
		}
		some := left[e.r.Intn(len(left))]
		e.explore(some, e.read(some), depth-1)
		disk, data = done(e.t, disk, acts), fresh
		if e.read(disk) != data {
			e.t.Fatalf("P8: saved: %x, want %x", e.read(disk), data)
		}
	}
}

func TestP9SavedWholeOrNotAtAll(t *testing.T) {
	for _, size := range sizes {
		for seed := range 4 {
			e := &explorer{t, rand.New(rand.NewSource(int64(seed))), size}
			e.explore(blank(Need(size)), strings.Repeat("\x00", size), 4)
		}
	}
}

// TestP11AnyStamps begins with disks whose sectors have stamps of all sorts:
// all choices for copies of one sector, and some for longer ones.
func TestP11AnyStamps(t *testing.T) {
	ends := []byte{0, 1, 2, 3, 4, 255}
	r := rand.New(rand.NewSource(1))
	for choice := range 6 * 6 * 6 * 6 {
		disk := []string{
			stamped(r, ends[choice%6], ends[choice/6%6]),
			stamped(r, ends[choice/36%6], ends[choice/216]),
		}
		exploreGiven(t, r, 20, disk, 2)
	}
	for range 300 {
		for _, size := range []int{63, 128} {
			disk := blank(Need(size))
			usual := ends[1+r.Intn(3)]
			for i := range disk {
				disk[i] = stamped(r, usual, usual)
				if r.Intn(4) == 0 {
					disk[i] = stamped(r, ends[r.Intn(6)], ends[r.Intn(6)])
				}
			}
			exploreGiven(t, r, size, disk, 2)
		}
	}
}

func stamped(r *rand.Rand, first, last byte) string {
	return string([]byte{first}) + randomText(r, 62) + string([]byte{last})
}

func exploreGiven(t *testing.T, r *rand.Rand, size int, disk []string, depth int) {
	t.Helper()
	_, data, _ := Open(size, disk)
	if len(data) != size {
		t.Fatalf("P11: %d bytes, want %d", len(data), size)
	}
	e := &explorer{t, r, size}
	e.explore(disk, data, depth)
}

// TestP10OpeningIsQuiet: where the power was not lost, nothing is done.
func TestP10OpeningIsQuiet(t *testing.T) {
	for _, size := range sizes {
		disk := blank(Need(size))
		for turn := range 7 {
			s, _, acts := Open(size, disk)
			if len(acts) != 0 {
				t.Errorf("P10: %d bytes, turn %d: %v", size, turn, acts)
			}
			disk = done(t, disk, s.Save(strings.Repeat("x", size)))
		}
	}
}

// TestP7GreaterDisk leaves the sectors that are not needed as they are.
func TestP7GreaterDisk(t *testing.T) {
	r := rand.New(rand.NewSource(2))
	disk := blank(64)
	for i := Need(128); i < 64; i++ {
		disk[i] = stamped(r, 1, 1)
	}
	s, data, acts := Open(128, disk)
	if data != strings.Repeat("\x00", 128) || len(acts) != 0 {
		t.Errorf("P7: %x, %v", data, acts)
	}
	for range 5 {
		for _, a := range s.Save(randomText(r, 128)) {
			if a.Sector >= Need(128) {
				t.Errorf("P7: the sector %d is written", a.Sector)
			}
		}
	}
}
