// Package bits is layer 1: bits of words of 64.
package bits

import "math/bits"

// Word is how many bits a word has.
const Word = 64

const (
	byteBits  = 8
	wordBytes = Word / byteBits
)

// Get is the field of a width from the bit at on, as a number; 0, if there is no such bit.
func Get(w uint64, at, width int) uint64 {
	if !has(at) {
		return 0
	}
	return w >> at & ones(width)
}

// Put is w with n's lowest bits in the field of a width from the bit at on; w, if there is no such bit.
func Put(w uint64, at, width int, n uint64) uint64 {
	if !has(at) {
		return w
	}
	field := ones(width) << at
	return w&^field | n<<at&field
}

// Fits tells whether all bits of n from width on are 0.
func Fits(n uint64, width int) bool {
	return n&^ones(width) == 0
}

// Count is how many bits are 1.
func Count(w uint64) int {
	return bits.OnesCount64(w)
}

// Lowest is the place of the least bit that is 1; Word without one.
func Lowest(w uint64) int {
	return bits.TrailingZeros64(w)
}

// Highest is the place of the greatest bit that is 1; -1 without one.
func Highest(w uint64) int {
	return bits.Len64(w) - 1
}

// Up is n divided by size, rounded up; 0, unless both are above 0.
func Up(n, size int) int {
	if n <= 0 || size <= 0 {
		return 0
	}
	// n+size-1 could be more than an int holds.
	return (n-1)/size + 1
}

// Bytes are the words' bytes, of each the lowest first.
func Bytes(words ...uint64) []byte {
	data := make([]byte, 0, len(words)*wordBytes)
	for _, w := range words {
		for at := 0; at < Word; at += byteBits {
			data = append(data, byte(w>>at))
		}
	}
	return data
}

// Words are the words of these bytes, of each the lowest first; noughts behind.
func Words(data []byte) []uint64 {
	words := make([]uint64, Up(len(data), wordBytes))
	for i, b := range data {
		words[i/wordBytes] |= uint64(b) << (i % wordBytes * byteBits)
	}
	return words
}

// Turn is w turned to the left by so many bits, modulo Word.
func Turn(w uint64, by int) uint64 {
	// Whole turns change nothing, and 2^64 is so many whole turns: a by below 0 may be converted as it is.
	left := uint(by) % Word
	return w<<left | w>>(Word-left)
}

// has tells whether a word has such a bit.
func has(at int) bool {
	return at >= 0 && at < Word
}

// ones is a word whose lowest bits, so many, are 1; a width below 0 counts as 0, above Word as Word.
func ones(width int) uint64 {
	// A width of Word or more shifts the 1 out: 0 less 1 is a word of ones.
	return uint64(1)<<max(width, 0) - 1
}
