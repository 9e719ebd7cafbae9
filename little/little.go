// Package little tells numbers as bytes, the lowest one first, for the two memories that hold bytes.
package little

// Put writes a number's lowest bytes.
func Put(to []byte, n int64) {
	for k := range to {
		to[k] = byte(n >> (8 * k))
	}
}

// Get reads a number.
func Get(from []byte) int64 {
	n := int64(0)
	for k, b := range from {
		n |= int64(b) << (8 * k)
	}
	return n
}
