package octet

// crcPoly is the polynomial of CRC-32C with its lowest power in the highest bit, since the register is shifted right.
const crcPoly uint32 = 0x82F63B78

// Crc answers the check sum of the parts, one behind the other.
func Crc(parts ...[]byte) uint32 {
	register := ^uint32(0)
	for _, part := range parts {
		for _, b := range part {
			register = crcByte(register ^ uint32(b))
		}
	}
	return ^register
}

// crcByte shifts eight bits out of the register.
func crcByte(register uint32) uint32 {
	for range 8 {
		fell := register & 1
		register >>= 1
		if fell == 1 {
			register ^= crcPoly
		}
	}
	return register
}
