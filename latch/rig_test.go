package latch_test

import (
	"encoding/hex"
	"fmt"
	"slices"
	"strings"
	"testing"

	"latch/api"
	"latch/frame"
	"latch/latch"
	"latch/pack"
)

func raw(t *testing.T, s string) string {
	t.Helper()
	b, err := hex.DecodeString(strings.ReplaceAll(s, " ", ""))
	if err != nil {
		t.Fatal(err)
	}
	return string(b)
}

func blank(sectors int) []string {
	return slices.Repeat([]string{strings.Repeat("\x00", 64)}, sectors)
}

// plain is a config with kept and volatile entries and lines of both kinds.
func plain() api.Config {
	return api.Config{
		Sizes: [4]int{20, 10, 10, 10}, Coils: 10, Holds: 5,
		Unit: 1, Lines: []int{0, 1, 0, 1}, Batch: 3,
	}
}

func onStream(mark, unit int, body string) string {
	return pack.Words(mark, 0, len(body)+1) + string([]byte{byte(unit)}) + body
}

func onSerial(unit int, body string) string {
	s := string([]byte{byte(unit)}) + body
	check := frame.Check(s)
	return s + string([]byte{byte(check), byte(check >> 8)})
}

// rig is a device with the disk to which its acts are done.
type rig struct {
	t    *testing.T
	c    api.Config
	d    *latch.Device
	disk []string
}

func newRig(t *testing.T, c api.Config) *rig {
	t.Helper()
	need, errno := latch.Need(c)
	if errno != api.OK || need < 1 || need > 64 {
		t.Fatalf("Need(%v) = %d, %d", c, need, errno)
	}
	r := &rig{t: t, c: c, disk: blank(need)}
	r.open()
	return r
}

func (r *rig) open() {
	r.t.Helper()
	d, acts, errno := latch.Open(r.c, r.disk)
	if d == nil || errno != api.OK {
		r.t.Fatalf("Open(%v): %d", r.c, errno)
	}
	for _, a := range acts {
		if a.Kind == api.Send {
			r.t.Errorf("P7: Open sends %x", a.Data)
		}
	}
	r.d = d
	r.did(acts)
}

// did does acts to the disk, and tells what is to be seen of them: "safe" where
// a Sync stands, and what is sent, with its line.
func (r *rig) did(acts []api.Act) []string {
	r.t.Helper()
	var seen []string
	unsynced := false
	for _, a := range acts {
		want := api.Act{Kind: a.Kind}
		switch a.Kind {
		case api.Write:
			want.Sector, want.Data = a.Sector, a.Data
			if len(a.Data) != 64 || a.Sector < 0 || a.Sector >= len(r.disk) {
				r.t.Fatalf("P6: %d bytes to the sector %d", len(a.Data), a.Sector)
			}
			r.disk[a.Sector] = a.Data
			unsynced = true
		case api.Sync:
			seen = append(seen, "safe")
			unsynced = false
		case api.Send:
			want.Line, want.Data = a.Line, a.Data
			if unsynced {
				r.t.Errorf("P8: %x is sent ahead of a Sync", a.Data)
			}
			seen = append(seen, sent(a.Line, a.Data))
		default:
			r.t.Errorf("P6: an act of the kind %d", a.Kind)
		}
		if a != want {
			r.t.Errorf("P6: more than its kind has stands in %v", a)
		}
	}
	if unsynced {
		r.t.Errorf("P8: there is no Sync behind the last Write")
	}
	return seen
}

func sent(line int, data string) string { return fmt.Sprintf("%d:%x", line, data) }

func (r *rig) feed(line int, s string) []string {
	r.t.Helper()
	acts, errno := r.d.Feed(line, s)
	if errno != api.OK {
		r.t.Fatalf("Feed(%d): %d", line, errno)
	}
	return r.did(acts)
}

func (r *rig) tick() []string {
	r.t.Helper()
	return r.did(r.d.Tick())
}

func (r *rig) flush() []string {
	r.t.Helper()
	return r.did(r.d.Flush())
}

// mark is that of the requests of ask, which does not matter to the device.
const mark = 0x1234

// ask lets one request come over line 0, a Stream.
func (r *rig) ask(body string) []string {
	r.t.Helper()
	return r.feed(0, onStream(mark, r.c.Unit, raw(r.t, body)))
}

// answer is one to ask, as did tells it.
func (r *rig) answer(body string) string {
	r.t.Helper()
	return sent(0, onStream(mark, r.c.Unit, raw(r.t, body)))
}

// wants asks for things that are to be seen, in order.
func (r *rig) wants(what string, seen []string, want ...string) {
	r.t.Helper()
	if !slices.Equal(seen, want) {
		r.t.Errorf("%s: %q, want %q", what, seen, want)
	}
}

func (r *rig) look(table int) []int {
	r.t.Helper()
	list, errno := r.d.Look(table)
	if errno != api.OK {
		r.t.Fatalf("Look(%d): %d", table, errno)
	}
	return list
}

func (r *rig) wantsEntries(what string, table int, want ...int) {
	r.t.Helper()
	if list := r.look(table); !slices.Equal(list, want) {
		r.t.Errorf("%s: table %d: %v, want %v", what, table, list, want)
	}
}
