package pack

import (
	"slices"
	"testing"
)

func TestP8Words(t *testing.T) {
	for s, list := range map[string][]int{
		"":                         {},
		"\x00\x00":                 {0},
		"\x00\x01\x01\x00":         {1, 256},
		"\xff\xff\x12\x34\xff\x00": {65535, 0x1234, 65280},
	} {
		if got := Words(list...); got != s {
			t.Errorf("Words(%v) = %x, want %x", list, got, s)
		}
		if got := WordsOf(s); !slices.Equal(got, list) {
			t.Errorf("WordsOf(%x) = %v, want %v", s, got, list)
		}
		if len(list) > 0 && WordOf(s) != list[0] {
			t.Errorf("WordOf(%x) = %d, want %d", s, WordOf(s), list[0])
		}
	}
}

func TestP8Bits(t *testing.T) {
	for s, list := range map[string][]int{
		"":         {},
		"\x01":     {1},
		"\x04":     {0, 0, 1, 0},
		"\x80":     {0, 0, 0, 0, 0, 0, 0, 1},
		"\x00\x01": {0, 0, 0, 0, 0, 0, 0, 0, 1},
		"\xcd\x02": {1, 0, 1, 1, 0, 0, 1, 1, 0, 1},
	} {
		if got := Bits(list); got != s {
			t.Errorf("Bits(%v) = %x, want %x", list, got, s)
		}
		if got := BitsOf(s, len(list)); !slices.Equal(got, list) {
			t.Errorf("BitsOf(%x) = %v, want %v", s, got, list)
		}
	}
}

func TestP8LeftOverBitsAreNotLookedAt(t *testing.T) {
	if got := BitsOf("\xff\xff", 3); !slices.Equal(got, []int{1, 1, 1}) {
		t.Errorf("BitsOf: %v", got)
	}
}

func TestP8BitsSize(t *testing.T) {
	for n, want := range map[int]int{0: 0, 1: 1, 7: 1, 8: 1, 9: 2, 16: 2, 17: 3, 60: 8} {
		if got := BitsSize(n); got != want {
			t.Errorf("BitsSize(%d) = %d, want %d", n, got, want)
		}
	}
}
