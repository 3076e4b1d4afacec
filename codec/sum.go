package codec

// Sum is that of parts.
func Sum(parts ...string) uint32 {
	table := sumTable()
	sum := ^uint32(0)
	for _, part := range parts {
		for i := range len(part) {
			sum ^= uint32(part[i])
			for range 2 {
				sum = sum>>4 ^ table[sum&15]
			}
		}
	}
	return ^sum
}

// sumTable tells by what four halvings change a sum, by its lowest four bits. It is one of half a byte, not of a byte, as each sum makes it anew.
func sumTable() [16]uint32 {
	var table [16]uint32
	for i := range len(table) {
		x := uint32(i)
		for range 4 {
			x = halve(x)
		}
		table[i] = x
	}
	return table
}

func halve(x uint32) uint32 {
	if x&1 == 1 {
		return x>>1 ^ 0x82F63B78
	}
	return x >> 1
}
