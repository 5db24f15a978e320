package delta

import "recension/api"

// A match says that n bytes of the base, from at on, are the same as those of the target from some place on.
type match struct {
	at, n int
}

// cutUp cuts the target into the pieces of the document's delta, and hands each on to where its kind is written.
func cutUp(target []byte, matches []match, ofOwn func(piece []byte), ofBase func(m match)) {
	begin := 0
	for i := 0; i < len(target); {
		m := matches[i]
		if m.n < api.MinMatch {
			i++
			continue
		}
		if begin < i {
			ofOwn(target[begin:i])
		}
		ofBase(m)
		i += m.n
		begin = i
	}
	if begin < len(target) {
		ofOwn(target[begin:])
	}
}

// longestMatches are, for each place of the target, the longest match from there on, and of equally long ones the first in the base.
func longestMatches(base, target []byte) []match {
	places := placesOfBytes(base)
	longest := make([]match, len(target))
	// How many bytes are the same from each place of the base on: here, and from the target's place behind it.
	here, behind := make([]int, len(base)+1), make([]int, len(base)+1)
	for i := len(target) - 1; i >= 0; i-- {
		// The row was the one of two places ahead; where the bytes are not the same it has to say nought.
		clear(here)
		for _, at := range places[target[i]] {
			n := behind[at+1] + 1
			here[at] = n
			if n > longest[i].n {
				longest[i] = match{at: at, n: n}
			}
		}
		here, behind = behind, here
	}
	return longest
}

// placesOfBytes are, for each byte, the places at which it stands in the base, rising.
func placesOfBytes(base []byte) [256][]int {
	var places [256][]int
	for at, c := range base {
		places[c] = append(places[c], at)
	}
	return places
}
