package glob

import "slices"

// match tells whether all letters are as the pieces say, one after the other.
func match(l []piece, letters []rune) bool {
	// star is the last * so far (-1: none), from the first letter that it does not take; at and i are the piece and the letter that are next.
	star, from := -1, 0
	at, i := 0, 0
	for i < len(letters) {
		switch {
		case at < len(l) && l[at].many:
			star, from = at, i
			at++
		case at < len(l) && l[at].takes(letters[i]):
			at++
			i++
		case star >= 0:
			// Only the last * takes one letter more: what stands ahead of it ends as early as may be, so an earlier one that took more would leave it but fewer places.
			from++
			at, i = star+1, from
		default:
			return false
		}
	}
	return !slices.ContainsFunc(l[at:], func(x piece) bool { return !x.many })
}
