package sha_test

import (
	"encoding/hex"
	"strings"
	"testing"

	"indenture/api"
	"indenture/sha"
)

// hashes: of noughts, of 255s, with every byte at every place, and sums.
func hashes() []api.Hash {
	l := []api.Hash{{}, api.Hash([]byte(strings.Repeat("\xff", 32))), sha.Sum(nil), sha.Sum([]byte("abc"))}
	for at := range 32 {
		for x := range 256 {
			var h api.Hash
			h[at] = byte(x)
			h[31-at] ^= 0x5a
			l = append(l, h)
		}
	}
	return l
}

func noHash(t *testing.T, s string) {
	t.Helper()
	if h, ok := sha.Parse(s); ok || h != (api.Hash{}) {
		t.Errorf("Parse of %q: %x %v, want none", s, h, ok)
	}
}

// P3.2

func TestHex(t *testing.T) {
	if got := sha.Hex(api.Hash{}); got != strings.Repeat("0", 64) {
		t.Errorf("noughts: %s", got)
	}
	for _, h := range hashes() {
		if got := sha.Hex(h); got != hex.EncodeToString(h[:]) {
			t.Errorf("Hex: %s, want %x", got, h)
		}
	}
}

func TestParse(t *testing.T) {
	for _, h := range hashes() {
		got, ok := sha.Parse(hex.EncodeToString(h[:]))
		if got != h || !ok {
			t.Errorf("Parse: %x %v, want %x", got, ok, h)
		}
	}
}

func TestParseOtherCounts(t *testing.T) {
	text := sha.Hex(sha.Sum([]byte("abc")))
	for n := range len(text) {
		noHash(t, text[:n])
		noHash(t, text[n+1:])
	}
	for n := 65; n < 200; n++ {
		noHash(t, (text + text + text + text)[:n])
	}
	noHash(t, "0x"+text[:62])
	noHash(t, "0x"+text)
	noHash(t, " "+text)
	noHash(t, text+"\n")
	noHash(t, "")
}

func TestParseOtherSigns(t *testing.T) {
	text := sha.Hex(sha.Sum([]byte("abc")))
	noHash(t, strings.ToUpper(text))
	for at := range len(text) {
		for x := range 256 {
			changed := []byte(text)
			changed[at] = byte(x)
			h, ok := sha.Parse(string(changed))
			if want := strings.IndexByte("0123456789abcdef", byte(x)) >= 0; ok != want {
				t.Fatalf("Parse of %q: %v", changed, ok)
			}
			if !ok && h != (api.Hash{}) {
				t.Fatalf("Parse of %q: false, and %x", changed, h)
			}
			if ok && sha.Hex(h) != string(changed) {
				t.Fatalf("Parse of %q: %x", changed, h)
			}
		}
	}
	// 64 signs, but not of a byte each; and 64 bytes that are fewer signs.
	noHash(t, strings.Repeat("é", 64))
	noHash(t, strings.Repeat("é", 32))
	noHash(t, text[:62]+"é")
}
