package latch

import (
	"latch/api"
	"latch/pack"
)

// mayBe tells whether all numbers of a config are within their bounds.
func mayBe(c api.Config) bool {
	for _, size := range c.Sizes {
		if !within(size, 0, api.MaxSize) {
			return false
		}
	}
	for _, kind := range c.Lines {
		if kind != api.Stream && kind != api.Serial {
			return false
		}
	}
	return within(c.Coils, 0, c.Sizes[api.Coils]) &&
		within(c.Holds, 0, c.Sizes[api.Holders]) &&
		within(c.Unit, 1, api.MaxUnit) &&
		within(len(c.Lines), 1, api.MaxLines) &&
		within(c.Batch, 1, api.MaxBatch)
}

func within(n, least, most int) bool { return n >= least && n <= most }

// keptSize is how many bytes the kept entries have on a disk.
func keptSize(c api.Config) int {
	return pack.BitsSize(c.Coils) + pack.WordSize*c.Holds
}
