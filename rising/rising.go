// Package rising holds what several layers ask of digests that stand one behind the other: rising is strictly, by digest.Less.
package rising

import (
	"recension/api"
	"recension/digest"
)

// Order is below 0 if a is ahead of b, above 0 if b is ahead of a.
func Order(a, b api.Digest) int {
	switch {
	case digest.Less(a, b):
		return -1
	case digest.Less(b, a):
		return 1
	}
	return 0
}

// Are tells whether digests rise.
func Are(l []api.Digest) bool {
	for i := 1; i < len(l); i++ {
		if !digest.Less(l[i-1], l[i]) {
			return false
		}
	}
	return true
}
