// Package dec reckons with decimals of eighteen digits: see doc/01-dec.md.
package dec

import (
	"cmp"
	"math/bits"

	"verdict/api"
)

// Wrong tells what is wrong with d as a number.
func Wrong(d api.Dec) api.Errno {
	if d.Coef < -api.MaxCoef || d.Coef > api.MaxCoef || d.Exp < -api.MaxExp || d.Exp > api.MaxExp {
		return api.ErrRange
	}
	// Each number is written in one way only, so that two that are the same have the same fields.
	if d.Coef%10 == 0 && d != (api.Dec{}) {
		return api.ErrForm
	}
	return api.OK
}

// Add tells the nearest number to a + b.
func Add(a, b api.Dec) (api.Dec, api.Errno) {
	if err := wrongOf(a, b); err != api.OK {
		return api.Dec{}, err
	}
	return sum(a, b).nearest()
}

// Sub tells the nearest number to a - b.
func Sub(a, b api.Dec) (api.Dec, api.Errno) {
	if err := wrongOf(a, b); err != api.OK {
		return api.Dec{}, err
	}
	return sum(a, opposite(b)).nearest()
}

// Mul tells the nearest number to a * b.
func Mul(a, b api.Dec) (api.Dec, api.Errno) {
	if err := wrongOf(a, b); err != api.OK {
		return api.Dec{}, err
	}
	return product(a, b).nearest()
}

// Div tells the nearest number to a / b.
func Div(a, b api.Dec) (api.Dec, api.Errno) {
	if err := wrongOf(a, b); err != api.OK {
		return api.Dec{}, err
	}
	if b.Coef == 0 {
		return api.Dec{}, api.ErrZero
	}
	return quotient(a, b).nearest()
}

// Neg tells the opposite of d.
func Neg(d api.Dec) (api.Dec, api.Errno) {
	if err := Wrong(d); err != api.OK {
		return api.Dec{}, err
	}
	return opposite(d), api.OK
}

// Cmp tells -1, 0 or 1: a is less than b, the same, more.
func Cmp(a, b api.Dec) (int, api.Errno) {
	if err := wrongOf(a, b); err != api.OK {
		return 0, err
	}
	signA, signB := cmp.Compare(a.Coef, 0), cmp.Compare(b.Coef, 0)
	if signA != signB {
		return cmp.Compare(signA, signB), api.OK
	}
	if signA == 0 {
		return 0, api.OK
	}
	return signA * compareSizes(a, b), api.OK
}

// Round tells the nearest number to the multiple of 10^-places that is nearest to d.
func Round(d api.Dec, places int) (api.Dec, api.Errno) {
	if err := Wrong(d); err != api.OK {
		return api.Dec{}, err
	}
	if places < -api.MaxExp || places > api.MaxExp {
		return api.Dec{}, api.ErrRange
	}
	if d.Exp >= -places {
		return d, api.OK
	}
	f := fraction{below: d.Coef < 0, digits: padded(size(d), coefDigits), exp: d.Exp}
	return f.number(f.wholeAt(-places), -places)
}

// Floor tells the greatest whole number that is not more than d.
func Floor(d api.Dec) (api.Dec, api.Errno) {
	if err := Wrong(d); err != api.OK {
		return api.Dec{}, err
	}
	if d.Exp >= 0 {
		return d, api.OK
	}
	whole := towardsZero(d)
	if d.Coef < 0 {
		whole--
	}
	return trimmed(whole, 0)
}

// Ceil tells the least whole number that is not less than d.
func Ceil(d api.Dec) (api.Dec, api.Errno) {
	if err := Wrong(d); err != api.OK {
		return api.Dec{}, err
	}
	if d.Exp >= 0 {
		return d, api.OK
	}
	whole := towardsZero(d)
	if d.Coef > 0 {
		whole++
	}
	return trimmed(whole, 0)
}

func wrongOf(a, b api.Dec) api.Errno {
	if err := Wrong(a); err != api.OK {
		return err
	}
	return Wrong(b)
}

func opposite(d api.Dec) api.Dec {
	return api.Dec{Coef: -d.Coef, Exp: d.Exp}
}

// size is Coef without its sign.
func size(d api.Dec) uint64 {
	if d.Coef < 0 {
		return uint64(-d.Coef)
	}
	return uint64(d.Coef)
}

// compareSizes holds two numbers other than 0 against each other, their signs left out.
func compareSizes(a, b api.Dec) int {
	coefA, expA := stretched(a)
	coefB, expB := stretched(b)
	if expA != expB {
		return cmp.Compare(expA, expB)
	}
	return cmp.Compare(coefA, coefB)
}

// stretched gives a number other than 0 all eighteen digits: then the greater exponent is the greater number.
func stretched(d api.Dec) (uint64, int) {
	coef, exp := size(d), d.Exp
	for coef < coefBound/10 {
		coef *= 10
		exp--
	}
	return coef, exp
}

// towardsZero cuts the digits behind the point off. A number whose Exp is below 0 is never whole, so the caller knows that some are lost.
func towardsZero(d api.Dec) int64 {
	whole := d.Coef
	for range -d.Exp {
		whole /= 10
	}
	return whole
}

// sum has all digits of a + b: the two may lie so far apart that no machine word holds them.
func sum(a, b api.Dec) fraction {
	low := min(a.Exp, b.Exp)
	width := max(a.Exp, b.Exp) - low + coefDigits + 1
	x, y := column(a, low, width), column(b, low, width)
	belowA, belowB := a.Coef < 0, b.Coef < 0
	if belowA == belowB {
		return fraction{below: belowA, digits: plus(x, y), exp: low}
	}
	if less(x, y) {
		return fraction{below: belowB, digits: minus(y, x), exp: low}
	}
	return fraction{below: belowA, digits: minus(x, y), exp: low}
}

func product(a, b api.Dec) fraction {
	high, low := bits.Mul64(size(a), size(b))
	// Both are below 10^18, so their product's upper half is, too, and Div64 can't overflow.
	upper, lower := bits.Div64(high, low, coefBound)
	digits := append(padded(upper, coefDigits), padded(lower, coefDigits)...)
	return fraction{below: (a.Coef < 0) != (b.Coef < 0), digits: digits, exp: a.Exp + b.Exp}
}

// quotientPlaces is how far a quotient of two coefficients is worked out behind its point. It is at least 10^-18, so more than twenty of its digits are known, and nearest needs nineteen.
const quotientPlaces = 40

// quotient divides by hand, digit by digit: what is left over is below 10^18, and ten times that still fits in 64 bits.
func quotient(a, b api.Dec) fraction {
	left, by := size(a), size(b)
	digits := padded(left/by, coefDigits)
	left %= by
	for range quotientPlaces {
		left *= 10
		digits = append(digits, byte(left/by))
		left %= by
	}
	return fraction{below: (a.Coef < 0) != (b.Coef < 0), digits: digits, exp: a.Exp - b.Exp - quotientPlaces, rest: left != 0}
}
