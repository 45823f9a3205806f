// Package crc: a sum that finds what is spoilt.
package crc

const (
	sumBytes   = 2
	maskDigits = 16
	start      = 0xffff
	polynomial = 0x1021
)

// Sum tells any change within sixteen digits in a row, of the bytes or of the sum itself.
func Sum(b ...byte) uint16 {
	sum := uint16(start)
	for _, x := range b {
		sum = addByte(sum, x)
	}
	return sum
}

func addByte(sum uint16, x byte) uint16 {
	for i := range 8 {
		digit := uint16(x>>(7-i)) & 1
		sum = addDigit(sum, digit)
	}
	return sum
}

func addDigit(sum, digit uint16) uint16 {
	out := sum>>15 ^ digit
	sum <<= 1
	if out == 1 {
		sum ^= polynomial
	}
	return sum
}

// Seal copies b: to append to it could write into the caller's memory behind its length.
func Seal(b []byte) []byte {
	sum := Sum(b...)
	sealed := make([]byte, 0, len(b)+sumBytes)
	sealed = append(sealed, b...)
	return append(sealed, byte(sum>>8), byte(sum))
}

// Open answers false for whatever no Seal could have made; nothing of it is to be trusted then.
func Open(b []byte) ([]byte, bool) {
	size := len(b) - sumBytes
	if size < 0 {
		return nil, false
	}
	sum := uint16(b[size])<<8 | uint16(b[size+1])
	if Sum(b[:size]...) != sum {
		return nil, false
	}
	return copyOf(b[:size]), true
}

// Spoil is what a bad wire does to b: a burst of changed digits, of which a part may fall beside it.
func Spoil(b []byte, bit int, mask uint16) []byte {
	spoilt := copyOf(b)
	end := 8 * len(b)
	if bit <= -maskDigits || bit >= end {
		return spoilt // wholly beside b; and bit + i below stays within an int
	}
	for i := range maskDigits {
		at := bit + i
		if at < 0 || at >= end {
			continue
		}
		digit := byte(mask>>(maskDigits-1-i)) & 1
		spoilt[at/8] ^= digit << (7 - at%8)
	}
	return spoilt
}

func copyOf(b []byte) []byte {
	c := make([]byte, len(b))
	copy(c, b)
	return c
}
