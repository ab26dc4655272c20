package latch_test

import (
	"iter"
	"math/rand"
	"slices"
	"strings"
	"testing"

	"latch/api"
	"latch/latch"
)

// medium is what is on a disk for sure, and the Writes, in order, that no Sync
// stands behind yet.
type medium struct {
	safe []string
	wet  []api.Act
}

// behind is the medium when acts have taken place.
func (m medium) behind(acts []api.Act) medium {
	safe, wet := m.safe, slices.Clone(m.wet)
	for _, a := range acts {
		switch a.Kind {
		case api.Write:
			wet = append(wet, a)
		case api.Sync:
			for _, w := range wet {
				safe = put(safe, w, api.MaxSector)
			}
			wet = nil
		}
	}
	return medium{safe, wet}
}

// losses are all disks that a loss of power within acts may leave, each with
// how many of the acts have taken place by then.
func (m medium) losses(acts []api.Act) iter.Seq2[int, []string] {
	return func(yield func(int, []string) bool) {
		for n := range len(acts) + 1 {
			now := m.behind(acts[:n])
			if !spread(now.safe, now.wet, true, func(left []string) bool { return yield(n, left) }) {
				return
			}
		}
	}
}

// drawLoss is one of losses.
func (m medium) drawLoss(r *rand.Rand, acts []api.Act) (int, []string) {
	n := r.Intn(len(acts) + 1)
	now := m.behind(acts[:n])
	left := slices.Clone(now.safe)
	torn := r.Intn(len(now.wet) + 1)
	for i, w := range now.wet {
		switch {
		case i == torn:
			left = put(left, w, r.Intn(api.MaxSector+1))
		case r.Intn(2) == 0:
			left = put(left, w, api.MaxSector)
		}
	}
	return n, left
}

// spread goes through what wet Writes may leave, in their order, so that of
// several to one sector the last stands: each is there or not, and one may be
// torn. It tells whether to go on.
func spread(disk []string, wet []api.Act, mayTear bool, visit func([]string) bool) bool {
	if len(wet) == 0 {
		return visit(disk)
	}
	for n := 0; n <= api.MaxSector; n++ {
		torn := n > 0 && n < api.MaxSector
		if torn && !mayTear {
			continue
		}
		if !spread(put(disk, wet[0], n), wet[1:], mayTear && !torn, visit) {
			return false
		}
	}
	return true
}

// put is a disk with the first n bytes of a Write on it.
func put(disk []string, w api.Act, n int) []string {
	after := slices.Clone(disk)
	after[w.Sector] = w.Data[:n] + after[w.Sector][n:]
	return after
}

// TestRigLosses holds the losses of these tests to the words of P9.
func TestRigLosses(t *testing.T) {
	fill := func(s string) string { return strings.Repeat(s, 64) }
	tear := func(over, under string, n int) string { return fill(over)[:n] + fill(under)[n:] }
	write := func(sector int, s string) api.Act { return api.Act{Kind: api.Write, Sector: sector, Data: fill(s)} }
	sync := api.Act{Kind: api.Sync}
	type key struct {
		n    int
		disk [2]string
	}
	check := func(what string, wet, acts []api.Act, want map[key]int) {
		t.Helper()
		got := map[key]int{}
		before := medium{[]string{fill("a"), fill("b")}, wet}
		for n, left := range before.losses(acts) {
			got[key{n, [2]string(left)}]++
		}
		for k := range want {
			if got[k] == 0 {
				t.Errorf("%s: %v is not among the losses", what, k)
			}
		}
		for k := range got {
			if want[k] == 0 {
				t.Errorf("%s: %v is among the losses", what, k)
			}
		}
	}

	one := map[key]int{{0, [2]string{fill("a"), fill("b")}}: 1, {2, [2]string{fill("x"), fill("b")}}: 1}
	two := map[key]int{{0, [2]string{fill("a"), fill("b")}}: 1}
	same := map[key]int{{2, [2]string{fill("y"), fill("b")}}: 1}
	for n := range 65 {
		one[key{1, [2]string{tear("x", "a", n), fill("b")}}] = 1
		two[key{1, [2]string{tear("x", "a", n), fill("b")}}] = 1
		for _, other := range []string{"b", "y"} {
			two[key{2, [2]string{tear("x", "a", n), fill(other)}}] = 1
		}
		for _, other := range []string{"a", "x"} {
			two[key{2, [2]string{fill(other), tear("y", "b", n)}}] = 1
		}
		for done := range 2 {
			same[key{done, [2]string{tear("x", "a", n), fill("b")}}] = 1
		}
		same[key{1, [2]string{tear("y", "a", n), fill("b")}}] = 1
		same[key{1, [2]string{tear("y", "x", n), fill("b")}}] = 1
	}
	check("a Write and a Sync", nil, []api.Act{write(0, "x"), sync}, one)
	check("two Writes", nil, []api.Act{write(0, "x"), write(1, "y")}, two)
	check("two Writes to one sector", []api.Act{write(0, "x")}, []api.Act{write(0, "y"), sync}, same)
}

// opener opens devices with disks that a loss of power has left.
type opener struct {
	t *testing.T
	c api.Config
	// r draws one of the last losses, if there is an r; else all of them are
	// gone through.
	r     *rand.Rand
	known map[string]outcome
}

// outcome is what a device has when it is opened with a disk, also if the
// power goes some more times while it is opened.
type outcome struct {
	kept string
	more int
}

func newOpener(t *testing.T, c api.Config, r *rand.Rand) *opener {
	return &opener{t, c, r, map[string]outcome{}}
}

// kept tells which kept entries a device has that is opened with a disk. They
// must be the same if the power goes while it is opened, as often as more says,
// each time at each act.
func (o *opener) kept(disk []string, more int) string {
	o.t.Helper()
	key := strings.Join(disk, "")
	if known, ok := o.known[key]; ok && known.more >= more {
		return known.kept
	}
	d, acts := o.open(disk)
	kept := keptOf(o.t, d, o.c)
	o.known[key] = outcome{kept, more}
	if more == 0 || len(acts) == 0 {
		return kept
	}
	check := func(left []string) {
		o.t.Helper()
		if now := o.kept(left, more-1); now != kept {
			o.t.Fatalf("P10: the power went while it was opened: %x, ahead of that %x", now, kept)
		}
	}
	before := medium{safe: disk}
	if more == 1 && o.r != nil {
		_, left := before.drawLoss(o.r, acts)
		check(left)
		return kept
	}
	for _, left := range before.losses(acts) {
		check(left)
	}
	return kept
}

// open checks what holds of each disk.
func (o *opener) open(disk []string) (*latch.Device, []api.Act) {
	o.t.Helper()
	d, acts, errno := latch.Open(o.c, disk)
	if d == nil || errno != api.OK {
		o.t.Fatalf("P11: Open(%v): %d", o.c, errno)
	}
	for _, a := range acts {
		if a.Kind != api.Sync && a.Kind != api.Write {
			o.t.Fatalf("P7: Open does %v", a)
		}
	}
	return d, acts
}

// keptOf tells the kept entries of a device that has just been opened, as a
// text, and checks that they may be, and that all others are 0.
func keptOf(t *testing.T, d *latch.Device, c api.Config) string {
	t.Helper()
	var text []byte
	for table, keeps := range [4]int{c.Coils, 0, c.Holds, 0} {
		list, errno := d.Look(table)
		if errno != api.OK || len(list) != c.Sizes[table] {
			t.Fatalf("P8: Look(%d): %v, %d", table, list, errno)
		}
		most := 65535
		if table < api.Holders {
			most = 1
		}
		for i, entry := range list {
			if entry < 0 || entry > most {
				t.Fatalf("P11: table %d: %v", table, list)
			}
			if i >= keeps && entry != 0 {
				t.Fatalf("P9: of table %d the first %d are kept: %v", table, keeps, list)
			}
		}
		text = append(text, textOf(list[:keeps])...)
	}
	return string(text)
}

func textOf(entries []int) []byte {
	var text []byte
	for _, entry := range entries {
		text = append(text, byte(entry>>8), byte(entry))
	}
	return text
}
