package crc

// linear is a linear map of registers: what it makes of each single bit. It is
// an array, so that a map and its square are values that share nothing.
type linear [32]uint32

// nought is what one byte 0 makes of a register.
func nought() linear {
	var m linear
	for i := range len(m) {
		m[i] = turn(1 << i)
	}
	return m
}

func (m linear) of(register uint32) uint32 {
	var out uint32
	for i := range len(m) {
		if register>>i&1 == 1 {
			out ^= m[i]
		}
	}
	return out
}

func (m linear) squared() linear {
	var out linear
	for i := range len(m) {
		out[i] = m.of(m[i])
	}
	return out
}

// behind is the register behind n bytes 0, by the shifts alone. It squares, as n
// may be far too great to be gone over byte by byte.
func behind(register uint32, n int) uint32 {
	for m := nought(); n > 0; n >>= 1 {
		if n&1 == 1 {
			register = m.of(register)
		}
		m = m.squared()
	}
	return register
}
