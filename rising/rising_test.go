package rising

import (
	"bytes"
	"slices"
	"testing"

	"recension/api"
)

// someDigests are unlike at the first byte, at one within, at the last, and at several.
func someDigests() []api.Digest {
	return []api.Digest{{}, {1}, {2}, {255}, {1, 1}, {2, 1}, {16: 1}, {16: 2}, {31: 1}, {31: 255}, {0: 1, 31: 1}, {0: 1, 31: 2}, {0: 2, 31: 1}}
}

func TestOrder(t *testing.T) {
	for _, a := range someDigests() {
		for _, b := range someDigests() {
			if got, want := Order(a, b), bytes.Compare(a[:], b[:]); got != want {
				t.Errorf("Order of %x and %x: %d, not %d", a, b, got, want)
			}
		}
	}
}

func TestAre(t *testing.T) {
	if !Are(nil) || !Are([]api.Digest{}) {
		t.Error("no digests do not rise")
	}
	for _, a := range someDigests() {
		if !Are([]api.Digest{a}) {
			t.Errorf("%x alone does not rise", a)
		}
		for _, b := range someDigests() {
			for _, c := range someDigests() {
				want := bytes.Compare(a[:], b[:]) < 0 && bytes.Compare(b[:], c[:]) < 0
				if got := Are([]api.Digest{a, b, c}); got != want {
					t.Errorf("Are %x, %x, %x: %t", a, b, c, got)
				}
			}
		}
	}
	all := someDigests()
	slices.SortFunc(all, Order)
	if !Are(all) {
		t.Error("digests that were sorted do not rise")
	}
}
