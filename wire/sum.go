package wire

// quarters holds, for each number of 4 bits, what the register becomes of it in four shifts.
var quarters = [16]uint32{
	0x00000000, 0x105ec76f, 0x20bd8ede, 0x30e349b1,
	0x417b1dbc, 0x5125dad3, 0x61c69362, 0x7198540d,
	0x82f63b78, 0x92a8fc17, 0xa24bb5a6, 0xb21572c9,
	0xc38d26c4, 0xd3d3e1ab, 0xe330a81a, 0xf36e6f75,
}

// Sum returns the CRC-32C checksum of s.
func Sum(s string) int {
	register := ^uint32(0)
	for i := range len(s) {
		register ^= uint32(s[i])
		register = shift4(register)
		register = shift4(register)
	}
	return int(^register)
}

// shift4 does four shifts at once: they are linear, so the low 4 bits can be looked up apart from the others, which only move.
func shift4(register uint32) uint32 {
	return register>>4 ^ quarters[register&15]
}
