// Package noise makes bytes for the tests of all layers. No layer calls it.
package noise

// Bytes tells n bytes that look like none in particular; of one seed they are the same always, so that a test that fails fails again.
func Bytes(seed uint32, n int) []byte {
	b := make([]byte, max(n, 0))
	for i := range b {
		seed = seed*1664525 + 1013904223
		b[i] = byte(seed >> 24)
	}
	return b
}
