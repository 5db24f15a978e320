package commit

import (
	"recension/api"
	"recension/wire"
)

// What an operation's first number is the sum of.
const (
	ofDel    = 1
	ofLeft   = 2
	ofOwn    = 4
	ofFar    = 8
	greatest = ofFar + ofLeft + ofDel // a Ref is not own and far at once
)

// bytesOf are the bytes of a commit that may be.
func bytesOf(c api.Commit) []byte {
	b := putNum(nil, len(c.Parents))
	for _, p := range c.Parents {
		b = append(b, p[:]...)
	}
	b = append(b, wire.Text(c.Author)...)
	b = append(b, wire.Text(c.Note)...)
	b = putNum(b, len(c.Ops))
	for _, op := range c.Ops {
		b = putOp(b, op)
	}
	return b
}

// putNum puts the bytes of a number that is not below 0 behind others.
func putNum(b []byte, n int) []byte {
	digits, _ := wire.Num(n)
	return append(b, digits...)
}

// putOp puts the bytes of an operation that may be behind others.
func putOp(b []byte, op api.Op) []byte {
	b = putNum(b, firstNumber(op))
	if isFar(op.At) {
		b = append(b, op.At.Commit[:]...)
	}
	if !isRoot(op.At) {
		b = putNum(b, op.At.N)
	}
	if op.Kind == api.Ins {
		b = append(b, op.Byte)
	}
	return b
}

// firstNumber tells of an operation all but its Ref's fields and its Byte.
func firstNumber(op api.Op) int {
	n := 0
	if op.Kind == api.Del {
		n += ofDel
	}
	if op.Left {
		n += ofLeft
	}
	switch {
	case isOwn(op.At):
		n += ofOwn
	case isFar(op.At):
		n += ofFar
	}
	return n
}

// A place is where in some bytes a reader is.
type place struct {
	b  []byte
	at int
}

// left is how many bytes are behind it.
func (p *place) left() int {
	return len(p.b) - p.at
}

// A reader reads a commit's bytes, one part behind the other. Its first error ends the reading from afar: it is thrown, and caught where the reading began.
type reader struct {
	place
}

// check throws an error, if it is one.
func check(e api.Errno) {
	if e != api.OK {
		panic(e)
	}
}

// need checks that so many bytes are behind where it is.
func (r *reader) need(n int) {
	if r.left() < n {
		panic(api.ErrEnd)
	}
}

// number reads a number.
func (r *reader) number() int {
	n, next, e := wire.GetNum(r.b, r.at)
	check(e)
	r.at = next
	return n
}

// count reads a number of things of which there may be so many at most.
func (r *reader) count(most int) int {
	n := r.number()
	if n > most {
		panic(api.ErrMany)
	}
	return n
}

// text reads a text.
func (r *reader) text() string {
	s, next, e := wire.GetText(r.b, r.at)
	check(e)
	r.at = next
	return s
}

// digest reads a digest.
func (r *reader) digest() (d api.Digest) {
	r.need(len(d))
	r.at += copy(d[:], r.b[r.at:])
	return d
}

// single reads a byte.
func (r *reader) single() byte {
	r.need(1)
	x := r.b[r.at]
	r.at++
	return x
}

// commit reads a commit, which is to be held against May yet.
func (r *reader) commit() (c api.Commit) {
	for range r.count(api.MaxParents) {
		c.Parents = append(c.Parents, r.digest())
	}
	c.Author = r.text()
	c.Note = r.text()
	for range r.count(api.MaxOps) {
		c.Ops = append(c.Ops, r.op())
	}
	return c
}

// op reads an operation.
func (r *reader) op() api.Op {
	n := r.number()
	if n > greatest {
		panic(api.ErrForm)
	}
	op := api.Op{Kind: api.Ins, Left: n&ofLeft != 0, At: r.ref(n)}
	if n&ofDel != 0 {
		op.Kind = api.Del
	} else {
		op.Byte = r.single()
	}
	return op
}

// ref reads the Ref of an operation whose first number was read.
func (r *reader) ref(first int) (at api.Ref) {
	at.Own = first&ofOwn != 0
	far := first&ofFar != 0
	if far {
		at.Commit = r.digest()
	}
	if at.Own || far {
		at.N = r.number()
		if at.N == 0 {
			panic(api.ErrForm)
		}
	}
	return at
}

// end checks that nothing is behind where it is.
func (r *reader) end() {
	if r.left() > 0 {
		panic(api.ErrForm)
	}
}
