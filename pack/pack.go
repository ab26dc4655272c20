// Package pack: entries as bytes, in requests, in answers and on the disk.
package pack

// WordSize is how many bytes a word has.
const WordSize = 2

// BitsSize is how many bytes n bits need.
func BitsSize(n int) int { return (n + 7) / 8 }

// Words are numbers as words, the high byte of each first.
func Words(list ...int) string {
	s := make([]byte, 0, WordSize*len(list))
	for _, n := range list {
		s = append(s, byte(n>>8), byte(n))
	}
	return string(s)
}

// Bits are noughts and ones as bits, the first in the lowest bit of the first
// byte.
func Bits(list []int) string {
	s := make([]byte, BitsSize(len(list)))
	for i, n := range list {
		s[i/8] |= byte(n) << (i % 8)
	}
	return string(s)
}

// WordOf is the word with which s begins. s must have one.
func WordOf(s string) int { return int(s[0])<<8 | int(s[1]) }

// WordsOf are the words of which s is made.
func WordsOf(s string) []int {
	list := make([]int, len(s)/WordSize)
	for i := range list {
		list[i] = WordOf(s[i*WordSize:])
	}
	return list
}

// BitsOf are the first n bits of s. s must have them.
func BitsOf(s string, n int) []int {
	list := make([]int, n)
	for i := range list {
		list[i] = int(s[i/8] >> (i % 8) & 1)
	}
	return list
}
