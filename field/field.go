// Package field: numbers in bytes, the highest byte first: see doc/01-field.md.
package field

const maxSize = 8

// Get: the number that the size bytes from at on are.
func Get(b []byte, at, size int) (uint64, bool) {
	if !within(b, at, size) {
		return 0, false
	}
	var n uint64
	for _, x := range b[at : at+size] {
		n = n<<8 | uint64(x)
	}
	return n, true
}

// Put writes n into the size bytes from at on; false, and nothing is written: it can't stand there.
func Put(b []byte, at, size int, n uint64) bool {
	if !within(b, at, size) || !fits(size, n) {
		return false
	}
	write(b[at:at+size], n)
	return true
}

// Append: b, and size bytes of n behind it; b alone: n can't be written so.
func Append(b []byte, size int, n uint64) []byte {
	if !sizeMay(size) || !fits(size, n) {
		size = 0
	}
	// Never append to b itself: its spare room is the caller's.
	out := make([]byte, len(b)+size)
	copy(out, b)
	write(out[len(b):], n)
	return out
}

func sizeMay(size int) bool {
	return 1 <= size && size <= maxSize
}

// within subtracts the size from the length, as at and size together may be too great for an int.
func within(b []byte, at, size int) bool {
	return sizeMay(size) && at >= 0 && at <= len(b)-size
}

// fits is asked of a size that may be; a shift by all 64 bits leaves 0, so eight bytes hold every number.
func fits(size int, n uint64) bool {
	return n>>(8*size) == 0
}

// write goes from the lowest byte, the last, to the highest.
func write(b []byte, n uint64) {
	for i := len(b) - 1; i >= 0; i-- {
		b[i] = byte(n)
		n >>= 8
	}
}
