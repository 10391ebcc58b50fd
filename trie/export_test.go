package trie

// Reckoned tells how many nodes of a trie have their hash, and how many there are. No call tells when a hash is reckoned, so that a test looks inside.
func Reckoned(t *Trie) (int, int) {
	return t.top.reckoned()
}

func (n *node) reckoned() (int, int) {
	if n == nil {
		return 0, 0
	}
	left, leftAll := n.sides[0].reckoned()
	right, rightAll := n.sides[1].reckoned()
	own := 0
	if n.hash != [32]byte{} {
		own = 1
	}
	return own + left + right, 1 + leftAll + rightAll
}
