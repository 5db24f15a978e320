package diff

import "recension/api"

// atEnd is no edit's kind: both texts are at their ends.
const atEnd = 0

// goAlong goes the way of the document's script from a to b, and hands on the kind of each edit with the bytes of a, and those of b, that it goes past.
func goAlong(a, b string, do func(kind int, from, to string)) {
	costs := leastCosts(a, b)
	i, j := 0, 0
	kind := func() int {
		switch {
		case i == len(a) && j == len(b):
			return atEnd
		case i < len(a) && j < len(b) && a[i] == b[j]:
			return api.Keep
		case i < len(a) && (j == len(b) || costs[i+1][j] <= costs[i][j+1]):
			return api.Cut
		}
		return api.Put
	}
	for now := kind(); now != atEnd; {
		beginA, beginB := i, j
		next := now
		for next == now {
			if now != api.Put {
				i++
			}
			if now != api.Cut {
				j++
			}
			next = kind()
		}
		do(now, a[beginA:i], b[beginB:j])
		now = next
	}
}

// leastCosts are the chapter's d(i, j): a row for each i from 0 to len(a), with each j from 0 to len(b).
func leastCosts(a, b string) [][]int {
	width := len(b) + 1
	all := make([]int, (len(a)+1)*width)
	rows := make([][]int, len(a)+1)
	for i := range rows {
		// With its room shut off no row can grow into the one behind it.
		rows[i] = all[i*width : (i+1)*width : (i+1)*width]
	}
	last := rows[len(a)]
	for j := range last {
		last[j] = len(b) - j
	}
	for i := len(a) - 1; i >= 0; i-- {
		fillRow(rows[i], rows[i+1], a[i], b)
	}
	return rows
}

// fillRow reckons the row of the byte c of a from the row behind it.
func fillRow(row, behind []int, c byte, b string) {
	row[len(b)] = behind[len(b)] + 1
	for j := len(b) - 1; j >= 0; j-- {
		if c == b[j] {
			row[j] = behind[j+1]
		} else {
			row[j] = 1 + min(behind[j], row[j+1])
		}
	}
}
