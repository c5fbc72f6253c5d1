package dec_test

import (
	"math/big"
	"strings"
	"testing"

	"verdict/api"
	"verdict/dec"
)

// The document's own words, reckoned with fractions of any size: what package dec tells is held against them.

func power(exp int) *big.Rat {
	n := new(big.Int).Exp(big.NewInt(10), big.NewInt(int64(max(exp, -exp))), nil)
	if exp < 0 {
		return new(big.Rat).SetFrac(big.NewInt(1), n)
	}
	return new(big.Rat).SetInt(n)
}

func exactly(d api.Dec) *big.Rat {
	return new(big.Rat).Mul(new(big.Rat).SetInt64(d.Coef), power(d.Exp))
}

// wholeNearest has a half go to the even one.
func wholeNearest(r *big.Rat) *big.Int {
	low := floorOf(r)
	high := new(big.Int).Add(low, big.NewInt(1))
	toLow := new(big.Rat).Sub(r, new(big.Rat).SetInt(low))
	toHigh := new(big.Rat).Sub(new(big.Rat).SetInt(high), r)
	if c := toLow.Cmp(toHigh); c < 0 || c == 0 && low.Bit(0) == 0 {
		return low
	}
	return high
}

func floorOf(r *big.Rat) *big.Int {
	return new(big.Int).Div(r.Num(), r.Denom()) // Euclid's: the denominator is above 0
}

func nearestTo(r *big.Rat) (api.Dec, api.Errno) {
	for e := -api.MaxExp; ; e++ {
		n := wholeNearest(new(big.Rat).Mul(r, power(-e)))
		if n.CmpAbs(big.NewInt(api.MaxCoef)) <= 0 {
			return noughtsTaken(n.Int64(), e)
		}
	}
}

func noughtsTaken(coef int64, exp int) (api.Dec, api.Errno) {
	if coef == 0 {
		return api.Dec{}, api.OK
	}
	for coef%10 == 0 {
		coef, exp = coef/10, exp+1
	}
	if exp > api.MaxExp {
		return api.Dec{}, api.ErrMuch
	}
	return api.Dec{Coef: coef, Exp: exp}, api.OK
}

// dice are the same whenever the tests run.
type dice uint64

func (d *dice) roll(n int) int {
	*d = *d*6364136223846793005 + 1442695040888963407
	return int(uint64(*d)>>33) % n
}

// number likes nines, fives and noughts, and exponents that lie near to each other or at the bounds.
func (d *dice) number() api.Dec {
	var coef int64
	for range d.roll(19) {
		coef = coef*10 + []int64{0, 0, 1, 4, 5, 5, 9, 9, 9, int64(d.roll(10))}[d.roll(10)]
	}
	if d.roll(2) == 0 {
		coef = -coef
	}
	exps := []int{0, -1, -18, -api.MaxExp, api.MaxExp, d.roll(81) - 40, d.roll(81) - 40, d.roll(21) - 10}
	n, err := noughtsTaken(coef, exps[d.roll(len(exps))])
	if err != api.OK {
		n.Coef, n.Exp = 1, api.MaxExp
	}
	return n
}

const rolls = 2000

func TestA2AgainstFractions(t *testing.T) {
	d := dice(1)
	for range rolls {
		a, b := d.number(), d.number()
		x, y := exactly(a), exactly(b)
		holds(t, "Add", a, b, dec.Add, new(big.Rat).Add(x, y))
		holds(t, "Sub", a, b, dec.Sub, new(big.Rat).Sub(x, y))
		holds(t, "Mul", a, b, dec.Mul, new(big.Rat).Mul(x, y))
		if b.Coef != 0 {
			holds(t, "Div", a, b, dec.Div, new(big.Rat).Quo(x, y))
		}
		if got, err := dec.Cmp(a, b); got != x.Cmp(y) || err != api.OK {
			t.Fatalf("Cmp(%v, %v): %d, %d comes", a, b, got, err)
		}
	}
}

func holds(t *testing.T, name string, a, b api.Dec, call two, exact *big.Rat) {
	t.Helper()
	got, err := call(a, b)
	want, wantErr := nearestTo(exact)
	if got != want || err != wantErr {
		t.Fatalf("%s(%v, %v): %v, %d comes, not %v, %d", name, a, b, got, err, want, wantErr)
	}
	if wrong := dec.Wrong(got); wrong != api.OK {
		t.Fatalf("%s(%v, %v): %v comes, of which Wrong says %d", name, a, b, got, wrong)
	}
}

func TestA3AgainstFractions(t *testing.T) {
	d := dice(2)
	for range rolls {
		a, places := d.number(), d.roll(81)-40
		x := exactly(a)
		times := wholeNearest(new(big.Rat).Mul(x, power(places)))
		multiple := new(big.Rat).Mul(new(big.Rat).SetInt(times), power(-places))
		holds(t, "Round", a, api.Dec{Coef: int64(places)}, func(a, _ api.Dec) (api.Dec, api.Errno) { return dec.Round(a, places) }, multiple)
		low := new(big.Rat).SetInt(floorOf(x))
		holds(t, "Floor", a, a, func(a, _ api.Dec) (api.Dec, api.Errno) { return dec.Floor(a) }, low)
		high := new(big.Rat).Neg(new(big.Rat).SetInt(floorOf(new(big.Rat).Neg(x))))
		holds(t, "Ceil", a, a, func(a, _ api.Dec) (api.Dec, api.Errno) { return dec.Ceil(a) }, high)
	}
}

func (d *dice) digits(n int) string {
	var b strings.Builder
	for range n {
		b.WriteByte("0001455999"[d.roll(10)])
	}
	return b.String()
}

// text is some number's, of up to 100 bytes.
func (d *dice) text() string {
	ahead := strings.TrimLeft(d.digits(d.roll(60)), "0")
	if ahead == "" {
		ahead = "0"
	}
	if d.roll(2) == 0 {
		ahead = "-" + ahead
	}
	if d.roll(3) == 0 {
		return ahead
	}
	return ahead + "." + d.digits(1+d.roll(api.MaxDigits-1-len(ahead)))
}

func TestA4AgainstFractions(t *testing.T) {
	d := dice(3)
	for range rolls {
		s := d.text()
		exact, ok := new(big.Rat).SetString(s)
		if !ok {
			t.Fatalf("%q is none", s)
		}
		got, err := dec.Parse(s)
		if want, wantErr := nearestTo(exact); got != want || err != wantErr {
			t.Fatalf("Parse(%q): %v, %d comes, not %v, %d", s, got, err, want, wantErr)
		}
		a := d.number()
		printed, err := dec.Print(a)
		if err != api.OK {
			t.Fatalf("Print(%v): %d comes", a, err)
		}
		if again, err := dec.Parse(printed); again != a || err != api.OK {
			t.Fatalf("%v is printed as %q, and read as %v, %d", a, printed, again, err)
		}
	}
}
