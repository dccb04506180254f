// Package high has numbers of so many bytes, the highest first.
package high

// Put is the lowest n bytes of v.
func Put(v uint64, n int) []byte {
	var b []byte
	for k := n - 1; k >= 0; k-- {
		b = append(b, byte(v>>(8*k)))
	}
	return b
}

// Take is the number that all of b are.
func Take(b []byte) uint64 {
	v := uint64(0)
	for _, x := range b {
		v = v<<8 | uint64(x)
	}
	return v
}
