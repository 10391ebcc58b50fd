package noise_test

import (
	"bytes"
	"testing"

	"indenture/internal/noise"
)

func TestBytes(t *testing.T) {
	for _, n := range []int{-1, 0} {
		if b := noise.Bytes(1, n); len(b) != 0 {
			t.Errorf("Bytes of %d: %v", n, b)
		}
	}
	a, b := noise.Bytes(1, 1000), noise.Bytes(1, 1000)
	if len(a) != 1000 || !bytes.Equal(a, b) || bytes.Equal(a, noise.Bytes(2, 1000)) {
		t.Error("Bytes are not of their seed")
	}
	var seen [256]bool
	for _, x := range noise.Bytes(3, 10000) {
		seen[x] = true
	}
	for x, ok := range seen {
		if !ok {
			t.Errorf("no %d among ten thousand", x)
		}
	}
}
