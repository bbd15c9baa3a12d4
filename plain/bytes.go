package plain

// Put writes a number behind out as so many bytes, the highest first.
func Put(out []byte, n, width int) []byte {
	for i := width - 1; i >= 0; i-- {
		out = append(out, byte(n>>(8*i)))
	}
	return out
}

// Take is the number that some bytes write, the highest first. What eight of them hold beyond an int comes out below 0.
func Take(text string) int {
	n := uint64(0)
	for i := range len(text) {
		n = n<<8 | uint64(text[i])
	}
	return int(n)
}
