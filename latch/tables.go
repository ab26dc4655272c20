package latch

import (
	"latch/api"
	"latch/function"
	"latch/pack"
)

// tables are the entries of a device, and how many of the first of each table
// are kept.
type tables struct {
	entries [api.Tables][]int
	keeps   [api.Tables]int
}

// newTables has the kept entries as they were saved, and else noughts.
func newTables(c api.Config, saved string) tables {
	var t tables
	for i, size := range c.Sizes {
		t.entries[i] = make([]int, size)
	}
	t.keeps[api.Coils], t.keeps[api.Holders] = c.Coils, c.Holds
	copy(t.entries[api.Coils], pack.BitsOf(saved, c.Coils))
	copy(t.entries[api.Holders], pack.WordsOf(saved[pack.BitsSize(c.Coils):]))
	return t
}

// kept is what newTables takes as saved.
func (t *tables) kept() string {
	coils := t.entries[api.Coils][:t.keeps[api.Coils]]
	holders := t.entries[api.Holders][:t.keeps[api.Holders]]
	return pack.Bits(coils) + pack.Words(holders...)
}

func holdsBits(table int) bool { return table == api.Coils || table == api.Switches }

// greatest is the greatest value an entry of a table may have.
func greatest(table int) int {
	if holdsBits(table) {
		return 1
	}
	return 65535
}

// has tells whether all entries are there that a request reads or writes.
func (t *tables) has(s api.Shape) bool {
	return s.From+s.Count <= len(t.entries[s.Table]) && s.To+s.Many <= len(t.entries[s.Into])
}

// write does what a request writes, and tells whether any of it is kept.
func (t *tables) write(s api.Shape) bool {
	entries := t.entries[s.Into]
	if s.Function == function.MaskHolder {
		x, y := s.Values[0], s.Values[1]
		entries[s.To] = entries[s.To]&x | y&^x
	} else {
		copy(entries[s.To:], s.Values)
	}
	return s.Many > 0 && s.To < t.keeps[s.Into]
}

// read is what a request reads, as its answer tells it.
func (t *tables) read(s api.Shape) string {
	entries := t.entries[s.Table][s.From : s.From+s.Count]
	if holdsBits(s.Table) {
		return pack.Bits(entries)
	}
	return pack.Words(entries...)
}
