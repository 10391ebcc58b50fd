package store

import "slices"

// Kept tells the keys that a store still keeps, and how many chains. No call tells one without versions from one that is not there, so that a test looks inside.
func Kept(s *Store) ([]string, int) {
	return slices.Clone(s.keys), len(s.chains)
}
