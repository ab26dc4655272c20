package latch_test

import (
	"fmt"
	"math/rand"
	"slices"
	"testing"

	"latch/api"
	"latch/pack"
)

// want is a request as the test means it; its bytes are made from that, and
// what the model does hangs on that alone, not on the bytes.
type want struct {
	function    int
	from, count int
	to          int
	values      []int
	wrong       uint8 // the exception that its bytes ask for
	unit, mark  int
}

var functions = []int{1, 2, 3, 4, 5, 6, 15, 16, 22, 23}

func randomWant(r *rand.Rand, unit int) want {
	w := want{
		function: functions[r.Intn(len(functions))],
		from:     r.Intn(14), count: 1 + r.Intn(6), to: r.Intn(14),
		unit: unit, mark: r.Intn(65536),
	}
	most := 65536
	many := 1 + r.Intn(6)
	switch w.function {
	case 5:
		most, many = 2, 1
	case 6:
		many = 1
	case 15:
		most = 2
	case 22:
		many = 2
	}
	for range many {
		w.values = append(w.values, r.Intn(most))
	}
	switch r.Intn(12) {
	case 0:
		w.function, w.wrong = 7+r.Intn(8), api.Function
	case 1:
		w.wrong = api.Value
	case 2, 3:
		w.unit = r.Intn(3) * 100
	}
	return w
}

func (w want) body() string {
	f := string([]byte{byte(w.function)})
	size := func(n int) string { return string([]byte{byte(n)}) }
	span := pack.Words(w.from, w.count)
	set := pack.Words(w.to, len(w.values))
	body := f + span
	switch w.function {
	case 5:
		body = f + pack.Words(w.to, 0xff00*w.values[0])
	case 6:
		body = f + pack.Words(w.to, w.values[0])
	case 15:
		body = f + set + size(pack.BitsSize(len(w.values))) + pack.Bits(w.values)
	case 16:
		body = f + set + size(2*len(w.values)) + pack.Words(w.values...)
	case 22:
		body = f + pack.Words(w.to, w.values[0], w.values[1])
	case 23:
		body = f + span + set + size(2*len(w.values)) + pack.Words(w.values...)
	}
	if w.wrong == api.Value {
		body += "\x00"
	}
	return body
}

// model is a device as the document tells of it, with nothing of its disk.
type model struct {
	c       api.Config
	tables  [4][]int
	unsaved int
	waiting []string
}

func newModel(c api.Config) *model {
	m := &model{c: c}
	for i, size := range c.Sizes {
		m.tables[i] = make([]int, size)
	}
	return m
}

// do tells the answer's body, and whether a kept entry is written.
func (m *model) do(w want) (string, bool) {
	refuse := func(e uint8) (string, bool) {
		return string([]byte{byte(w.function) | 0x80, e}), false
	}
	if w.wrong != 0 {
		return refuse(w.wrong)
	}
	reads := map[int]int{1: 0, 2: 1, 3: 2, 4: 3, 23: 2}
	writes := map[int]int{5: 0, 15: 0, 6: 2, 16: 2, 22: 2, 23: 2}
	keeps := [4]int{m.c.Coils, 0, m.c.Holds, 0}
	into, doesWrite := writes[w.function]
	out, doesRead := reads[w.function]
	many := len(w.values)
	if w.function == 22 {
		many = 1
	}
	if doesRead && w.from+w.count > m.c.Sizes[out] || doesWrite && w.to+many > m.c.Sizes[into] {
		return refuse(api.Address)
	}
	kept := false
	for i := range many {
		if !doesWrite {
			break
		}
		at := w.to + i
		kept = kept || at < keeps[into]
		if w.function == 22 {
			m.tables[into][at] = masked(m.tables[into][at], w.values[0], w.values[1])
		} else {
			m.tables[into][at] = w.values[i]
		}
	}
	if !doesRead {
		return w.echo(), kept
	}
	return m.told(w, out), kept
}

// masked goes bit by bit.
func masked(old, x, y int) int {
	sum := 0
	for bit := 1; bit < 65536; bit *= 2 {
		if x/bit%2 == 1 {
			sum += old / bit % 2 * bit
		} else {
			sum += y / bit % 2 * bit
		}
	}
	return sum
}

func (w want) echo() string {
	if w.function == 15 || w.function == 16 {
		return string([]byte{byte(w.function)}) + pack.Words(w.to, len(w.values))
	}
	return w.body()
}

func (m *model) told(w want, table int) string {
	entries := m.tables[table][w.from : w.from+w.count]
	data := pack.Words(entries...)
	if table < 2 {
		data = pack.Bits(entries)
	}
	return string([]byte{byte(w.function), byte(len(data))}) + data
}

// heeds tells whether a request is done, and whether it is answered.
func (m *model) heeds(line int, w want) (done, answered bool) {
	toAll := m.c.Lines[line] == api.Serial && w.unit == 0
	answered = w.unit == m.c.Unit
	return answered || toAll && slices.Contains([]int{5, 6, 15, 16, 22}, w.function), answered
}

// take tells what is to be seen when a request has been taken.
func (m *model) take(line int, w want) []string {
	done, answered := m.heeds(line, w)
	if !done {
		return nil
	}
	body, kept := m.do(w)
	if kept {
		m.unsaved++
	}
	var seen []string
	if answered {
		data := onStream(w.mark, w.unit, body)
		if m.c.Lines[line] == api.Serial {
			data = onSerial(w.unit, body)
		}
		seen = append(seen, sent(line, data))
	}
	if m.unsaved > 0 {
		m.waiting = append(m.waiting, seen...)
		seen = nil
	}
	if m.unsaved >= m.c.Batch || len(m.waiting) >= m.c.Batch {
		return m.flush()
	}
	return seen
}

func (m *model) flush() []string {
	if m.unsaved == 0 {
		return nil
	}
	seen := append([]string{"safe"}, m.waiting...)
	m.unsaved, m.waiting = 0, nil
	return seen
}

func randomConfig(r *rand.Rand) api.Config {
	c := plain()
	for i := range c.Sizes {
		c.Sizes[i] = 8 + r.Intn(12)
	}
	c.Coils, c.Holds = r.Intn(c.Sizes[0]+1), r.Intn(c.Sizes[2]+1)
	c.Unit, c.Batch = 1+r.Intn(247), 1+r.Intn(8)
	c.Lines = make([]int, 1+r.Intn(4))
	for i := range c.Lines {
		c.Lines[i] = r.Intn(2)
	}
	return c
}

// run is a device beside its model, with the requests that Serial lines have
// heard since the last tick.
type run struct {
	*rig
	m     *model
	heard map[int]want
}

// stream lets some requests come in some pieces, the last of them whole.
func (u *run) stream(r *rand.Rand, line int) {
	all, want, ends := "", []string(nil), []int(nil)
	var due [][]string
	for range 1 + r.Intn(4) {
		w := randomWant(r, u.c.Unit)
		all += onStream(w.mark, w.unit, w.body())
		ends = append(ends, len(all))
		due = append(due, u.m.take(line, w))
	}
	from := 0
	for from < len(all) {
		to := min(len(all), from+1+r.Intn(30))
		want = nil
		for i, end := range ends {
			if end > from && end <= to {
				want = append(want, due[i]...)
			}
		}
		u.wants("P8: Feed", u.feed(line, all[from:to]), want...)
		from = to
	}
}

func (u *run) serial(r *rand.Rand, line int) {
	if _, heard := u.heard[line]; heard {
		return
	}
	w := randomWant(r, u.c.Unit)
	u.heard[line] = w
	u.wants("P8: Feed", u.feed(line, onSerial(w.unit, w.body())))
}

func (u *run) tickBoth() {
	var want []string
	for line := range u.c.Lines {
		if w, heard := u.heard[line]; heard {
			want = append(want, u.m.take(line, w)...)
		}
	}
	clear(u.heard)
	u.wants("P8: Tick", u.tick(), want...)
}

func (u *run) put(r *rand.Rand) {
	table := 1 + 2*r.Intn(2)
	address, value := r.Intn(u.c.Sizes[table]), r.Intn(2)
	if errno := u.d.Put(table, address, value); errno != api.OK {
		u.t.Errorf("P8: Put: %d", errno)
	}
	u.m.tables[table][address] = value
}

// reopen opens a second device with the disk, when all is safe.
func (u *run) reopen() {
	u.wants("P8: Flush", u.flush(), u.m.flush()...)
	again := &rig{t: u.t, c: u.c, disk: slices.Clone(u.disk)}
	again.open()
	for table, keeps := range [4]int{u.c.Coils, 0, u.c.Holds, 0} {
		want := slices.Clone(u.m.tables[table])
		clear(want[keeps:])
		again.wantsEntries("P8: opened anew", table, want...)
	}
}

func (u *run) step(r *rand.Rand) {
	line := r.Intn(len(u.c.Lines))
	switch r.Intn(16) {
	case 0:
		u.reopen()
	case 1:
		u.wants("P8: Flush", u.flush(), u.m.flush()...)
	case 2:
		u.wants("P8: Checkpoint", u.did(u.d.Checkpoint()), u.m.flush()...)
	case 3, 4:
		u.put(r)
	case 5, 6, 7:
		u.tickBoth()
	default:
		if u.c.Lines[line] == api.Stream {
			u.stream(r, line)
		} else {
			u.serial(r, line)
		}
	}
	for table, entries := range u.m.tables {
		u.wantsEntries("P8: Look", table, entries...)
	}
}

func TestP8AgainstModel(t *testing.T) {
	for seed := range 300 {
		r := rand.New(rand.NewSource(int64(seed)))
		c := randomConfig(r)
		u := &run{newRig(t, c), newModel(c), map[int]want{}}
		for step := range 150 {
			u.step(r)
			if t.Failed() {
				t.Fatal(fmt.Sprintf("seed %d, step %d, config %v", seed, step, c))
			}
		}
	}
}
