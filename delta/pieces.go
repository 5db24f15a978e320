package delta

import (
	"recension/api"
	"recension/wire"
)

// What a piece's number m has beside twice the piece's length.
const (
	ownBytes  = 0
	baseBytes = 1
)

// A writer has the bytes of a delta that are written so far.
type writer struct {
	d []byte
}

// number writes a number that is not below 0.
func (w *writer) number(n int) {
	b, _ := wire.Num(n)
	w.d = append(w.d, b...)
}

// ofOwn writes a piece of the target's own bytes.
func (w *writer) ofOwn(piece []byte) {
	w.number(2*len(piece) + ownBytes)
	w.d = append(w.d, piece...)
}

// ofBase writes a piece that stands in the base.
func (w *writer) ofBase(m match) {
	w.number(2*m.n + baseBytes)
	w.number(m.at)
}

// getPiece is the piece that stands in d at a place, of at most so many bytes, and where what is behind it begins. It shares its memory with d, or with the base.
func getPiece(base, d []byte, at, most int) (piece []byte, next int, e api.Errno) {
	m, next, e := wire.GetNum(d, at)
	if e != api.OK {
		return nil, 0, e
	}
	n := m / 2
	if n == 0 || n > most {
		return nil, 0, api.ErrForm
	}
	if m%2 == ownBytes {
		if n > len(d)-next {
			return nil, 0, api.ErrEnd
		}
		return d[next : next+n], next + n, api.OK
	}
	place, next, e := wire.GetNum(d, next)
	if e != api.OK {
		return nil, 0, e
	}
	// The place may be so great that its sum with n would wrap.
	if place > len(base)-n {
		return nil, 0, api.ErrRange
	}
	return base[place : place+n], next, api.OK
}
