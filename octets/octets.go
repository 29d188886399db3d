// Package octets lays numbers into bytes, the highest byte first, and takes them out again. It is what the layers that lay things into bytes share.
package octets

// Put answers b with a number behind it, in so many bytes; what the number has above these is lost. It may use b's spare room.
func Put[N int | uint64](b []byte, number N, many int) []byte {
	for i := many - 1; i >= 0; i-- {
		b = append(b, byte(number>>(8*i)))
	}
	return b
}

// Take answers the number of the first so many bytes, of which b has at least as many, and the bytes behind them.
func Take[N int | uint64](b []byte, many int) (N, []byte) {
	var number N
	for _, x := range b[:many] {
		number = number<<8 | N(x)
	}
	return number, b[many:]
}
