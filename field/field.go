// Package field is layer 1: fields of bits in words.
package field

const wordBits = 64

// Mask is the word whose lowest bits are 1.
func Mask(size int) uint64 {
	if size < 1 {
		return 0
	}
	if size >= wordBits {
		return ^uint64(0)
	}
	return 1<<size - 1
}

// there tells whether a word has a bit of this number.
func there(at int) bool { return at >= 0 && at < wordBits }

// Get is what a field tells.
func Get(w uint64, at, size int) uint64 {
	if !there(at) {
		return 0
	}
	return w >> at & Mask(size)
}

// Put is a word with another field.
func Put(w uint64, at, size int, v uint64) uint64 {
	if !there(at) {
		return w
	}
	// The shift drops those bits of the mask that are past the word's end.
	bits := Mask(size) << at
	return w&^bits | v<<at&bits
}

// Bit tells whether a bit is 1.
func Bit(w uint64, at int) bool { return there(at) && w>>at&1 == 1 }

// Width is how many bits a word has.
func Width(w uint64) int {
	width := 0
	for at := range wordBits {
		if Bit(w, at) {
			width = at + 1
		}
	}
	return width
}

// Signed is the lowest bits as a number in two's complement.
func Signed(w uint64, size int) int64 {
	if size < 1 {
		return 0
	}
	if size >= wordBits {
		return int64(w)
	}
	// The field's highest bit comes to be the word's, so that the way back doubles it.
	gap := wordBits - size
	return int64(w<<gap) >> gap
}

// Bytes are a word's bytes, the lowest first.
func Bytes(w uint64) [8]byte {
	var b [8]byte
	for i := range len(b) {
		b[i] = byte(w >> (8 * i))
	}
	return b
}

// Word is the word of bytes, the lowest first.
func Word(b ...byte) uint64 {
	w := uint64(0)
	for i, x := range b[:min(len(b), 8)] {
		w |= uint64(x) << (8 * i)
	}
	return w
}
