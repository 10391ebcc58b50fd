package sha

// Far is a State as if length bytes had been written, of which nothing but the count is left; so that the limit is reached without all of them. It is for a length of whole blocks.
func Far(length uint64) *State {
	s := New()
	s.length = length
	return s
}
