package wire

import "verdict/api"

// polynomial is the sum's, its bits turned round.
const polynomial uint32 = 0xEDB88320

// sumBytes is how many bytes a sum has.
const sumBytes = 4

// more is the bit of a number's byte that tells that another byte follows.
const more = 1 << 7

// walk counts the trees that it comes to.
type walk struct {
	trees int
}

func (w *walk) wrong(t api.Tree, deep int) api.Errno {
	w.trees++
	if w.trees > api.MaxTrees || deep > api.MaxTall {
		return api.ErrMuch
	}
	if t.Tag < 0 || t.Tag > api.MaxTag {
		return api.ErrRange
	}
	for _, kid := range t.Kids {
		if err := w.wrong(kid, deep+1); err != api.OK {
			return err
		}
	}
	return api.OK
}

// withTree is b with t's bytes behind it, and whether it is whole: a text for which there is no room is not written, nor what comes behind it.
func withTree(b []byte, t api.Tree) ([]byte, bool) {
	b = append(b, byte(t.Tag))
	b = withNumber(b, unsigned(t.N))
	b = withNumber(b, uint64(len(t.Text)))
	if len(t.Text) > api.MaxBytes-len(b) {
		return b, false
	}
	b = append(b, t.Text...)
	b = withNumber(b, uint64(len(t.Kids)))
	for _, kid := range t.Kids {
		longer, whole := withTree(b, kid)
		if !whole {
			return longer, false
		}
		b = longer
	}
	return b, true
}

func withNumber(b []byte, n uint64) []byte {
	for n >= more {
		b = append(b, byte(n)|more)
		n >>= 7
	}
	return append(b, byte(n))
}

// unsigned is n as a number without a sign: 2n, or -2n - 1, if it is below 0.
func unsigned(n int64) uint64 {
	if n < 0 {
		return ^(uint64(n) << 1)
	}
	return uint64(n) << 1
}

// signed is the number that unsigned makes n of.
func signed(n uint64) int64 {
	if n&1 == 1 {
		return ^int64(n >> 1)
	}
	return int64(n >> 1)
}

func withSum(b []byte, sum uint32) []byte {
	return append(b, byte(sum), byte(sum>>8), byte(sum>>16), byte(sum>>24))
}

// sumAt is the sum in b's four bytes.
func sumAt(b []byte) uint32 {
	return uint32(b[0]) | uint32(b[1])<<8 | uint32(b[2])<<16 | uint32(b[3])<<24
}

// reader takes what it reads away from its bytes. Once something was bad, what it reads means nothing.
type reader struct {
	left  []byte
	trees int
	bad   bool
}

// tree reads one that is so deep. It refuses what Wrong refuses, and whatever withTree would not have written.
func (r *reader) tree(deep int) api.Tree {
	r.trees++
	if r.trees > api.MaxTrees || deep > api.MaxTall {
		r.bad = true
		return api.Tree{}
	}
	t := api.Tree{Tag: int(r.next())}
	t.N = signed(r.number())
	t.Text = r.text(r.number())
	for n := r.number(); n > 0 && !r.bad; n-- {
		t.Kids = append(t.Kids, r.tree(deep+1))
	}
	return t
}

// next is the next byte.
func (r *reader) next() byte {
	if len(r.left) == 0 {
		r.bad = true
		return 0
	}
	b := r.left[0]
	r.left = r.left[1:]
	return b
}

// text is the next n bytes.
func (r *reader) text(n uint64) string {
	if n > uint64(len(r.left)) {
		r.bad = true
		return ""
	}
	s := string(r.left[:n])
	r.left = r.left[n:]
	return s
}

// number reads one that has no more bytes than it needs, nor more bits than 64.
func (r *reader) number() uint64 {
	n := uint64(0)
	for shift := 0; ; shift += 7 {
		b := r.next()
		if shift == 63 && b > 1 || shift > 0 && b == 0 {
			r.bad = true
			return 0
		}
		n |= uint64(b&^more) << shift
		if b < more {
			return n
		}
	}
}
