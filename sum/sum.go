// Package sum: the remainder of bytes.
package sum

const (
	ones = 1<<32 - 1  // what a sum begins as, and ends by
	odd  = 3988292384 // what an odd half is changed by
)

// Of texts, one behind the other.
func Of(l ...string) uint32 {
	var s uint32 // the sum of no bytes: the two xors undo each other
	for _, t := range l {
		s = More(s, t)
	}
	return s
}

// More: of a text whose sum is s, and another one behind it. The last xor of s is undone first, so that it goes on where s ended.
func More(s uint32, t string) uint32 {
	s ^= ones
	for i := range len(t) {
		s = step(s, t[i])
	}
	return s ^ ones
}

// step takes one byte in.
func step(s uint32, b byte) uint32 {
	s ^= uint32(b)
	for range 8 {
		if s%2 == 1 {
			s = s/2 ^ odd
		} else {
			s /= 2
		}
	}
	return s
}

// Bytes of a sum, the lowest first.
func Bytes(s uint32) string {
	return string([]byte{byte(s), byte(s >> 8), byte(s >> 16), byte(s >> 24)})
}
