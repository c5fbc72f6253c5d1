package dec

import (
	"bytes"

	"verdict/api"
)

const (
	coefDigits = 18
	coefBound  = api.MaxCoef + 1
)

// fraction is what comes of a reckoning, ahead of its rounding: its digits (0 to 9, not their signs), the first one first, as a whole number, times 10 to the power of exp. It is rounded but once, so all that rounding hangs on is kept: rest says that further digits follow, and that they are not all noughts.
type fraction struct {
	below  bool
	digits []byte
	exp    int
	rest   bool
}

// nearest is the document's NEAREST number. With a lesser exponent there would be more than eighteen digits ahead of the point. Where eighteen nines are rounded up to 10^18, the next exponent has 10^17, which is the same number, once its noughts are taken away.
func (f fraction) nearest() (api.Dec, api.Errno) {
	f.digits = f.digits[noughtsAhead(f.digits):]
	e := max(-api.MaxExp, f.exp+len(f.digits)-coefDigits)
	return f.number(f.wholeAt(e), e)
}

// wholeAt is the whole number nearest to the fraction without its sign, divided by 10^e; a half goes to the even one.
func (f fraction) wholeAt(e int) uint64 {
	kept := len(f.digits) + f.exp - e
	var whole uint64
	for i := range kept {
		whole *= 10
		if i < len(f.digits) {
			whole += uint64(f.digits[i])
		}
	}
	if f.goesUp(kept, whole%2 == 1) {
		whole++
	}
	return whole
}

// goesUp says whether what stands behind the first kept digits is more than a half, or a half behind an odd number.
func (f fraction) goesUp(kept int, odd bool) bool {
	if kept < 0 || kept >= len(f.digits) {
		return false
	}
	if f.digits[kept] != 5 {
		return f.digits[kept] > 5
	}
	behind := f.digits[kept+1:]
	return odd || f.rest || noughtsAhead(behind) < len(behind)
}

// number gives whole times 10^e the fraction's sign.
func (f fraction) number(whole uint64, e int) (api.Dec, api.Errno) {
	if f.below {
		return trimmed(-int64(whole), e)
	}
	return trimmed(int64(whole), e)
}

// trimmed takes the noughts from the end of coef; that alone may make the exponent too great.
func trimmed(coef int64, exp int) (api.Dec, api.Errno) {
	if coef == 0 {
		return api.Dec{}, api.OK
	}
	for coef%10 == 0 {
		coef /= 10
		exp++
	}
	if exp > api.MaxExp {
		return api.Dec{}, api.ErrMuch
	}
	return api.Dec{Coef: coef, Exp: exp}, api.OK
}

func noughtsAhead(digits []byte) int {
	n := 0
	for n < len(digits) && digits[n] == 0 {
		n++
	}
	return n
}

// padded is the digits of n, with noughts ahead up to that width.
func padded(n uint64, width int) []byte {
	digits := make([]byte, width)
	for i := width - 1; i >= 0; i-- {
		digits[i] = byte(n % 10)
		n /= 10
	}
	return digits
}

// column is the digits of d without its sign, the last one standing for 10^low, so that two numbers can be written one under the other.
func column(d api.Dec, low, width int) []byte {
	noughts := d.Exp - low
	return append(padded(size(d), width-noughts), make([]byte, noughts)...)
}

// less, plus and minus take columns of one width; plus needs a nought ahead in both, minus an x that is not less than y.

func less(x, y []byte) bool {
	return bytes.Compare(x, y) < 0
}

func plus(x, y []byte) []byte {
	digits := make([]byte, len(x))
	var carry byte
	for i := len(x) - 1; i >= 0; i-- {
		n := x[i] + y[i] + carry
		digits[i] = n % 10
		carry = n / 10
	}
	return digits
}

func minus(x, y []byte) []byte {
	digits := make([]byte, len(x))
	var borrow byte
	for i := len(x) - 1; i >= 0; i-- {
		n := 10 + x[i] - y[i] - borrow
		digits[i] = n % 10
		borrow = 1 - n/10
	}
	return digits
}
