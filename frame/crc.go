package frame

// fourBits: what the polynomial 0x82f63b78 makes of a state of four bits, once they are shifted out. Four bits at a time give the same sum as one at a time, in a quarter of the steps.
var fourBits = [16]uint32{
	0x00000000, 0x105ec76f, 0x20bd8ede, 0x30e349b1,
	0x417b1dbc, 0x5125dad3, 0x61c69362, 0x7198540d,
	0x82f63b78, 0x92a8fc17, 0xa24bb5a6, 0xb21572c9,
	0xc38d26c4, 0xd3d3e1ab, 0xe330a81a, 0xf36e6f75,
}

// Crc: the CRC-32C of b.
func Crc(b []byte) uint32 {
	state := ^uint32(0)
	for _, x := range b {
		state ^= uint32(x)
		state = fourBits[state&15] ^ state>>4
		state = fourBits[state&15] ^ state>>4
	}
	return ^state
}
