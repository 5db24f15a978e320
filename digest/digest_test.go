package digest

import (
	"bytes"
	"crypto/sha256"
	"encoding/hex"
	"slices"
	"strings"
	"testing"

	"recension/api"
)

// someBytes are n bytes of all kinds, that do not come again at the places of a block.
func someBytes(n int) []byte {
	b := make([]byte, n)
	for i := range b {
		b[i] = byte(i*i/3 + i*151 + 7)
	}
	return b
}

// someSizes are small sizes, and those about the ends of blocks, and about limits of package api.
func someSizes() []int {
	var l []int
	for n := range 300 {
		l = append(l, n)
	}
	for _, n := range []int{512, 1024, 4096, 1 << 16, api.MaxBytes, api.MaxPack} {
		l = append(l, n-9, n-8, n-1, n, n+1, n+55, n+56, n+57)
	}
	return l
}

// someDigests are digests that are unlike at each place, and by each bit of a byte.
func someDigests() []api.Digest {
	l := []api.Digest{{}, Sum(nil), Sum([]byte("abc")), Sum([]byte("abd"))}
	for i := range 32 {
		for _, x := range []byte{1, 2, 127, 128, 129, 254, 255} {
			var d api.Digest
			d[i] = x
			l = append(l, d)
			for j := range d {
				d[j] = 255 - d[j]
			}
			l = append(l, d)
		}
	}
	return l
}

func TestP3_1Sum(t *testing.T) {
	for s, want := range map[string]string{
		"":    "e3b0c442 98fc1c14 9afbf4c8 996fb924 27ae41e4 649b934c a495991b 7852b855",
		"abc": "ba7816bf 8f01cfea 414140de 5dae2223 b00361a3 96177a9c b410ff61 f20015ad",
		"abcdbcdecdefdefgefghfghighijhijkijkljklmklmnlmnomnopnopq":                                                         "248d6a61 d20638b8 e5c02693 0c3e6039 a33ce459 64ff2167 f6ecedd4 19db06c1",
		"abcdefghbcdefghicdefghijdefghijkefghijklfghijklmghijklmnhijklmnoijklmnopjklmnopqklmnopqrlmnopqrsmnopqrstnopqrstu": "cf5b16a7 78af8380 036ce59e 7b049237 0b249b11 e8f07a51 afac4503 7afee9d1",
		strings.Repeat("a", 1000000): "cdc76e5c 9914fb92 81a1c7e2 84d73e67 f1809a48 a497200e 046d39cc c7112cd0",
	} {
		d := Sum([]byte(s))
		if hex.EncodeToString(d[:]) != strings.ReplaceAll(want, " ", "") {
			t.Errorf("Sum of %d bytes, %.10q..: %x, not %s", len(s), s, d, want)
		}
	}
	for _, n := range someSizes() {
		for _, b := range [][]byte{someBytes(n), make([]byte, n), bytes.Repeat([]byte{255}, n)} {
			if d := Sum(b); d != sha256.Sum256(b) {
				t.Errorf("Sum of %d bytes: %x", n, d)
			}
		}
	}
	if Sum(nil) != Sum([]byte{}) {
		t.Error("nil and empty do not mean the same")
	}
}

// TestP3_1EachBit turns each bit of two blocks' bytes, so that none goes unread.
func TestP3_1EachBit(t *testing.T) {
	b := someBytes(120)
	for i := range b {
		for bit := range 8 {
			b[i] ^= 1 << bit
			if d := Sum(b); d != sha256.Sum256(b) {
				t.Fatalf("the bit %d of the byte %d turned: %x", bit, i, d)
			}
			b[i] ^= 1 << bit
		}
	}
}

func TestP3_2Hex(t *testing.T) {
	if s := Hex(api.Digest{}); s != strings.Repeat("0", 64) {
		t.Errorf("Hex of the zero digest: %q", s)
	}
	d := api.Digest{0x01, 0x23, 0x45, 0x67, 0x89, 0xab, 0xcd, 0xef, 0x00, 0x0f, 0xf0, 0xff}
	if s := Hex(d); s != "0123456789abcdef000ff0ff"+strings.Repeat("0", 40) {
		t.Errorf("Hex(%v): %q", d, s)
	}
	for _, d := range someDigests() {
		if s := Hex(d); s != hex.EncodeToString(d[:]) {
			t.Errorf("Hex(%v): %q", d, s)
		}
	}
}

func TestP3_2Parse(t *testing.T) {
	zeros := strings.Repeat("0", 64)
	if d, ok := Parse(zeros); d != (api.Digest{}) || !ok {
		t.Errorf("Parse of zeros: %v %v", d, ok)
	}
	want := api.Digest{0x01, 0x23, 0x45, 0x67, 0x89, 0xab, 0xcd, 0xef, 31: 0xf0}
	if d, ok := Parse("0123456789abcdef" + strings.Repeat("0", 46) + "f0"); d != want || !ok {
		t.Errorf("Parse: %v %v", d, ok)
	}
	good := Hex(Sum([]byte("abc")))
	for _, s := range []string{
		"", "0", "00", "a", good[:62], good[:63], good[1:], good[:32],
		good + "0", good + "00", "0" + good, "00" + good, good + good, strings.Repeat(good, 1000),
		strings.ToUpper(good), "B" + good[1:], good[:63] + "D",
		"0x" + good, "0x" + good[2:], "+" + good[1:], "-" + good[1:],
		" " + good, good + " ", " " + good[1:], good[:63] + " ", good + "\n", good[:63] + "\n", good + "\x00",
		good[:32] + " " + good[32:], good[:32] + "_" + good[33:],
		good[:62] + "é", good[:63] + "é", "٠" + good[2:], "０" + good[3:],
		strings.Repeat("g", 64), strings.Repeat(" ", 64), strings.Repeat("\x00", 64), strings.Repeat("\xff", 64),
	} {
		if d, ok := Parse(s); d != (api.Digest{}) || ok {
			t.Errorf("Parse(%q): %v %v", s, d, ok)
		}
	}
}

// TestP3_2ParseOfEachByte lays each byte to each place: just the 16 digits are read there.
func TestP3_2ParseOfEachByte(t *testing.T) {
	good := []byte(Hex(Sum([]byte("abc"))))
	for i, was := range good {
		for x := range 256 {
			good[i] = byte(x)
			d, ok := Parse(string(good))
			if strings.IndexByte("0123456789abcdef", byte(x)) < 0 {
				if d != (api.Digest{}) || ok {
					t.Errorf("Parse(%q): %v %v", good, d, ok)
				}
			} else if hex.EncodeToString(d[:]) != string(good) || !ok {
				t.Errorf("Parse(%q): %v %v", good, d, ok)
			}
		}
		good[i] = was
	}
}

func TestP3_3Less(t *testing.T) {
	for i := range 32 {
		// Behind the first byte that is unlike all say the other thing.
		var a, b api.Digest
		for j := range 32 {
			switch {
			case j < i:
				a[j], b[j] = byte(j*9), byte(j*9)
			case j > i:
				a[j], b[j] = 255, 0
			}
		}
		for _, x := range [][2]byte{{0, 1}, {0, 255}, {1, 2}, {127, 128}, {128, 255}, {254, 255}, {9, 16}} {
			a[i], b[i] = x[0], x[1]
			if !Less(a, b) || Less(b, a) {
				t.Errorf("Less of %v and %v", a, b)
			}
			if Less(a, a) || Less(b, b) {
				t.Errorf("%v, or %v, is ahead of itself", a, b)
			}
		}
	}
	l := someDigests()
	for _, a := range l {
		for _, b := range l {
			if Less(a, b) != (bytes.Compare(a[:], b[:]) < 0) {
				t.Errorf("Less(%v, %v): %v", a, b, Less(a, b))
			}
		}
	}
}

func TestP3_4New(t *testing.T) {
	h := New()
	if h == nil || h.Len() != 0 || h.Sum() != sha256.Sum256(nil) {
		t.Fatal("a new hash took something")
	}
	h.Write([]byte("ab"))
	if other := New(); other == h || other.Len() != 0 || other.Sum() != sha256.Sum256(nil) {
		t.Error("a new hash took what another one took")
	}
}

func TestP3_4WriteSumLen(t *testing.T) {
	h := New()
	var took []byte
	for _, n := range []int{1, 2, 0, 60, 1, 1, 63, 55, 1, 7, 1, 64, 128, 129, 0, 1000, 65, 5000} {
		b := someBytes(len(took) + n)[len(took):]
		h.Write(b)
		took = append(took, b...)
		// Sum is asked twice: it goes on as it was.
		for range 2 {
			if h.Sum() != sha256.Sum256(took) || h.Len() != len(took) {
				t.Fatalf("behind %d bytes: %x, %d bytes", len(took), h.Sum(), h.Len())
			}
		}
	}
	was := h.Sum()
	h.Write(nil)
	h.Write([]byte{})
	if h.Sum() != was || h.Len() != len(took) {
		t.Error("writing nothing took something")
	}
	h.Write([]byte{0})
	if h.Sum() == was || h.Len() != len(took)+1 {
		t.Error("a byte 0 was not taken")
	}
}

func TestP3_4Copy(t *testing.T) {
	for _, n := range []int{0, 1, 10, 55, 56, 63, 64, 65, 100, 128, 200} {
		head := someBytes(n)
		h := New()
		h.Write(head)
		c := h.Copy()
		if c == nil || c == h || c.Sum() != sha256.Sum256(head) || c.Len() != n {
			t.Fatalf("the copy of one that took %d bytes", n)
		}
		second := c.Copy()
		h.Write(bytes.Repeat([]byte("x"), 70))
		c.Write([]byte("yz"))
		h.Write([]byte("w"))
		want := append(append(bytes.Clone(head), bytes.Repeat([]byte("x"), 70)...), 'w')
		if h.Sum() != sha256.Sum256(want) || h.Len() != n+71 {
			t.Errorf("one that took %d bytes, and others behind its copy", n)
		}
		if c.Sum() != sha256.Sum256(append(bytes.Clone(head), "yz"...)) || c.Len() != n+2 {
			t.Errorf("the copy of one that took %d bytes is not its own", n)
		}
		if second.Sum() != sha256.Sum256(head) || second.Len() != n {
			t.Errorf("the copy of a copy is not its own, %d bytes", n)
		}
	}
}

func TestP3_4NotMade(t *testing.T) {
	var declared Hash
	emptied := New()
	emptied.Write([]byte("abc"))
	*emptied = Hash{}
	for i, h := range []*Hash{nil, {}, new(Hash), &declared, emptied} {
		for range 2 {
			if h.Sum() != (api.Digest{}) || h.Len() != 0 || h.Copy() != nil {
				t.Errorf("hash %d: %v, %d bytes, copy %v", i, h.Sum(), h.Len(), h.Copy())
			}
			h.Write(nil)
			h.Write([]byte("abc"))
			h.Write(someBytes(1000))
		}
		if h != nil && *h != (Hash{}) {
			t.Errorf("hash %d took something", i)
		}
	}
}

func TestP3_5ParseOfHex(t *testing.T) {
	l := someDigests()
	for n := range 1000 {
		l = append(l, Sum(someBytes(n)))
	}
	for _, d := range l {
		if got, ok := Parse(Hex(d)); got != d || !ok {
			t.Errorf("Parse of Hex(%v): %v %v", d, got, ok)
		}
	}
	// Each byte at each place.
	for i := range 32 {
		for x := range 256 {
			d := Sum(nil)
			d[i] = byte(x)
			if got, ok := Parse(Hex(d)); got != d || !ok {
				t.Errorf("Parse of Hex(%v): %v %v", d, got, ok)
			}
		}
	}
}

func TestP3_6LessIsAnOrder(t *testing.T) {
	l := someDigests()
	slices.SortFunc(l, func(a, b api.Digest) int { return strings.Compare(Hex(a), Hex(b)) })
	l = slices.Compact(l)
	for i, a := range l {
		for j, b := range l {
			if Less(a, b) != (i < j) {
				t.Errorf("of %v and %v not just the first one is ahead", a, b)
			}
		}
	}
}

func TestP3_7TwoPieces(t *testing.T) {
	for _, n := range []int{0, 1, 2, 55, 56, 57, 63, 64, 65, 119, 120, 127, 128, 129, 200, 300} {
		b := someBytes(n)
		for cut := range n + 1 {
			h := New()
			h.Write(b[:cut])
			h.Write(b[cut:])
			if h.Sum() != Sum(b) || h.Len() != n {
				t.Fatalf("%d bytes cut at %d: %x", n, cut, h.Sum())
			}
		}
	}
}

func TestP3_7ManyPieces(t *testing.T) {
	b := someBytes(1000)
	for size := 1; size <= 200; size++ {
		h := New()
		for piece := range slices.Chunk(b, size) {
			h.Write(piece)
			h.Write(nil)
			h.Sum()
			h = h.Copy()
		}
		if h.Sum() != sha256.Sum256(b) || h.Len() != len(b) {
			t.Fatalf("pieces of %d bytes: %x", size, h.Sum())
		}
	}
	// Pieces that are unlike one another, in three and more.
	for first := range 130 {
		for second := range 70 {
			h := New()
			h.Write(b[:first])
			h.Write(b[first : first+second])
			h.Write(b[first+second : 260])
			if h.Sum() != Sum(b[:260]) {
				t.Fatalf("pieces of %d and %d bytes, and the rest", first, second)
			}
		}
	}
}

// TestP1ArgumentsStay holds what is handed in, and the room behind it, against what it was.
func TestP1ArgumentsStay(t *testing.T) {
	room := someBytes(400)
	was := bytes.Clone(room)
	for _, n := range []int{0, 1, 55, 56, 64, 100, 128, 200} {
		Sum(room[:n])
		h := New()
		h.Write(room[:n])
		h.Sum()
		h.Copy().Write(room[n : 2*n])
		if !bytes.Equal(room, was) {
			t.Fatalf("%d bytes: what was handed in was changed", n)
		}
	}
	a, b := Sum([]byte("a")), Sum([]byte("b"))
	Less(a, b)
	Hex(a)
	if a != sha256.Sum256([]byte("a")) || b != sha256.Sum256([]byte("b")) {
		t.Error("a digest was changed")
	}
}

// TestP1NothingIsKept turns what was handed in behind the call, and what was answered: no hash turns with it.
func TestP1NothingIsKept(t *testing.T) {
	for _, n := range []int{1, 63, 64, 65, 200} {
		b := someBytes(n)
		want := sha256.Sum256(b)
		h := New()
		h.Write(b)
		clear(b)
		d := h.Sum()
		clear(d[:])
		if h.Sum() != want || h.Len() != n {
			t.Errorf("%d bytes: %x, not %x", n, h.Sum(), want)
		}
	}
}

// TestP1SameAnswers: a hash, whatever is done to others in between, answers as one of its own.
func TestP1SameAnswers(t *testing.T) {
	one, two := New(), New()
	for i := range 300 {
		one.Write([]byte{byte(i)})
		two.Write([]byte{byte(255 - i), byte(i)})
		if one.Sum() != Sum(rising(i+1)) || two.Len() != 2*one.Len() {
			t.Fatalf("behind %d bytes: %x", i+1, one.Sum())
		}
	}
}

// rising are the bytes 0, 1, 2 ..
func rising(n int) []byte {
	b := make([]byte, n)
	for i := range b {
		b[i] = byte(i)
	}
	return b
}
