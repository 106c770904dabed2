package frame

import "ropewalk/api"

// polynomial is that of CRC-32, its lowest power in the highest bit.
const polynomial = 0xEDB88320

const allOnes = 1<<32 - 1

// Sum is the CRC-32 of b.
func Sum(b []byte) uint32 {
	return ^turned(allOnes, b...)
}

// sumOf goes on from Kind to Data in one word, as the two do not stand side by side in a frame's bytes.
func sumOf(f api.Frame) uint32 {
	return ^turned(turned(allOnes, byte(f.Kind)), f.Data...)
}

// turned is word behind some bytes more.
func turned(word uint32, more ...byte) uint32 {
	for _, b := range more {
		word ^= uint32(b)
		for range 8 {
			low := word & 1
			word >>= 1
			if low == 1 {
				word ^= polynomial
			}
		}
	}
	return word
}
