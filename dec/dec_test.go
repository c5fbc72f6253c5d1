package dec_test

import (
	"math"
	"strings"
	"testing"

	"verdict/api"
	"verdict/dec"
)

type (
	one func(api.Dec) (api.Dec, api.Errno)
	two func(a, b api.Dec) (api.Dec, api.Errno)
)

const most = api.MaxCoef

func num(coef int64, exp int) api.Dec { return api.Dec{Coef: coef, Exp: exp} }

// isNum also checks that beside an error there is nothing.
func isNum(t *testing.T, got api.Dec, err api.Errno, want api.Dec, wantErr api.Errno) {
	t.Helper()
	if wantErr != api.OK {
		want = api.Dec{}
	}
	if got != want || err != wantErr {
		t.Errorf("%v, %d comes, not %v, %d", got, err, want, wantErr)
	}
}

func TestA1Wrong(t *testing.T) {
	for _, c := range []struct {
		d    api.Dec
		want api.Errno
	}{
		{num(0, 0), api.OK},
		{num(1, 0), api.OK},
		{num(-7, 3), api.OK},
		{num(most, api.MaxExp), api.OK},
		{num(-most, -api.MaxExp), api.OK},
		{num(most+1, 0), api.ErrRange},
		{num(most+2, 0), api.ErrRange},
		{num(-most-1, 0), api.ErrRange},
		{num(math.MaxInt64, 0), api.ErrRange},
		{num(math.MinInt64, 0), api.ErrRange},
		{num(1, api.MaxExp+1), api.ErrRange},
		{num(1, -api.MaxExp-1), api.ErrRange},
		{num(1, math.MaxInt), api.ErrRange},
		{num(1, math.MinInt), api.ErrRange},
		{num(10, 0), api.ErrForm},
		{num(-10, 0), api.ErrForm},
		{num(120, -2), api.ErrForm},
		{num(0, 1), api.ErrForm},
		{num(0, -1), api.ErrForm},
		{num(0, api.MaxExp), api.ErrForm},
		{num(0, api.MaxExp+1), api.ErrRange},
		{num(10, -api.MaxExp-1), api.ErrRange},
	} {
		if got := dec.Wrong(c.d); got != c.want {
			t.Errorf("Wrong(%v): %d comes, not %d", c.d, got, c.want)
		}
	}
}

func TestA1CallsOfOneTellWhatIsWrong(t *testing.T) {
	for d, want := range map[api.Dec]api.Errno{
		num(10, 0):            api.ErrForm,
		num(0, -1):            api.ErrForm,
		num(1, 41):            api.ErrRange,
		num(math.MinInt64, 0): api.ErrRange,
		num(-1, math.MinInt):  api.ErrRange,
	} {
		for _, call := range []one{dec.Neg, dec.Floor, dec.Ceil} {
			got, err := call(d)
			isNum(t, got, err, api.Dec{}, want)
		}
		for _, places := range []int{0, 41, math.MinInt} {
			got, err := dec.Round(d, places)
			isNum(t, got, err, api.Dec{}, want)
		}
		if got, err := dec.Print(d); got != "" || err != want {
			t.Errorf("Print(%v): %q, %d comes", d, got, err)
		}
	}
}

func TestA1CallsOfTwoTellWhatIsWrong(t *testing.T) {
	form, much := num(10, 0), num(1, 41)
	for _, c := range []struct {
		a, b api.Dec
		want api.Errno
	}{
		{form, num(1, 0), api.ErrForm},
		{much, num(1, 0), api.ErrRange},
		{num(1, 0), form, api.ErrForm},
		{num(1, 0), much, api.ErrRange},
		{form, much, api.ErrForm},
		{much, form, api.ErrRange},
		{form, num(0, 0), api.ErrForm},
		{num(1, 0), num(0, 1), api.ErrForm},
	} {
		for _, call := range []two{dec.Add, dec.Sub, dec.Mul, dec.Div} {
			got, err := call(c.a, c.b)
			isNum(t, got, err, api.Dec{}, c.want)
		}
		if got, err := dec.Cmp(c.a, c.b); got != 0 || err != c.want {
			t.Errorf("Cmp(%v, %v): %d, %d comes", c.a, c.b, got, err)
		}
	}
}

func TestA2AddAndSub(t *testing.T) {
	for _, c := range []struct {
		a, b api.Dec
		want api.Dec
		err  api.Errno
	}{
		{num(1, 0), num(2, 0), num(3, 0), api.OK},
		{num(5, 0), num(5, 0), num(1, 1), api.OK},
		{num(1, -1), num(2, -1), num(3, -1), api.OK},
		{num(7, 2), num(-7, 2), num(0, 0), api.OK},
		{num(0, 0), num(0, 0), num(0, 0), api.OK},
		{num(1, 0), num(-1, -18), num(most, -18), api.OK},
		// A half goes to the even one.
		{num(most, 0), num(5, -1), num(1, 18), api.OK},
		{num(most-1, 0), num(5, -1), num(most-1, 0), api.OK},
		{num(most-1, 0), num(-5, -1), num(most-1, 0), api.OK},
		{num(most-2, 0), num(5, -1), num(most-1, 0), api.OK},
		{num(-most, 0), num(-5, -1), num(-1, 18), api.OK},
		// A little more or less than a half does not.
		{num(most-1, 0), num(500000000000000001, -18), num(most, 0), api.OK},
		{num(most-2, 0), num(499999999999999999, -18), num(most-2, 0), api.OK},
		// What is far below is lost, but for whether there is anything.
		{num(most, 40), num(1, -40), num(most, 40), api.OK},
		{num(1, 40), num(-1, -40), num(1, 40), api.OK},
		{num(most, 40), num(5, 39), num(0, 0), api.ErrMuch},
		{num(most-1, 40), num(5, 39), num(most-1, 40), api.OK},
		{num(most, 40), num(1, 40), num(0, 0), api.ErrMuch},
		{num(-most, 40), num(-1, 40), num(0, 0), api.ErrMuch},
		{num(5, 40), num(5, 40), num(0, 0), api.ErrMuch},
		{num(1, -40), num(-1, -40), num(0, 0), api.OK},
	} {
		got, err := dec.Add(c.a, c.b)
		isNum(t, got, err, c.want, c.err)
		got, err = dec.Add(c.b, c.a)
		isNum(t, got, err, c.want, c.err)
		got, err = dec.Sub(c.a, num(-c.b.Coef, c.b.Exp))
		isNum(t, got, err, c.want, c.err)
	}
}

func TestA2Mul(t *testing.T) {
	for _, c := range []struct {
		a, b api.Dec
		want api.Dec
		err  api.Errno
	}{
		{num(6, 0), num(7, 0), num(42, 0), api.OK},
		{num(2, 0), num(5, 0), num(1, 1), api.OK},
		{num(-3, 5), num(3, -5), num(-9, 0), api.OK},
		{num(-3, 0), num(-3, 0), num(9, 0), api.OK},
		{num(0, 0), num(-3, 40), num(0, 0), api.OK},
		{num(most, 0), num(most, 0), num(most-1, 18), api.OK},
		{num(most, -40), num(most, -40), num(0, 0), api.OK},
		{num(most, -40), num(most, -18), num(most-1, -40), api.OK},
		{num(1, 20), num(1, 20), num(1, 40), api.OK},
		{num(1, 20), num(1, 21), num(0, 0), api.ErrMuch},
		{num(1, 40), num(1, 40), num(0, 0), api.ErrMuch},
		{num(most, 40), num(most, 40), num(0, 0), api.ErrMuch},
		{num(5, -1), num(1, -40), num(0, 0), api.OK},
		{num(15, -1), num(1, -40), num(2, -40), api.OK},
		{num(25, -1), num(1, -40), num(2, -40), api.OK},
		{num(-25, -1), num(1, -40), num(-2, -40), api.OK},
		{num(51, -2), num(1, -40), num(1, -40), api.OK},
		{num(1, -40), num(1, -40), num(0, 0), api.OK},
	} {
		got, err := dec.Mul(c.a, c.b)
		isNum(t, got, err, c.want, c.err)
		got, err = dec.Mul(c.b, c.a)
		isNum(t, got, err, c.want, c.err)
	}
}

func TestA2Div(t *testing.T) {
	for _, c := range []struct {
		a, b api.Dec
		want api.Dec
		err  api.Errno
	}{
		{num(1, 0), num(3, 0), num(333333333333333333, -18), api.OK},
		{num(2, 0), num(3, 0), num(666666666666666667, -18), api.OK},
		{num(-2, 0), num(3, 0), num(-666666666666666667, -18), api.OK},
		{num(1, 0), num(8, 0), num(125, -3), api.OK},
		{num(12, 0), num(-4, 0), num(-3, 0), api.OK},
		{num(0, 0), num(-4, 5), num(0, 0), api.OK},
		{num(1, 40), num(4, 0), num(25, 38), api.OK},
		{num(most, 0), num(2, 0), num(5, 17), api.OK},
		{num(most-2, 0), num(2, 0), num(499999999999999998, 0), api.OK},
		{num(1, 0), num(most, 0), num(1, -18), api.OK},
		// A half, many noughts, and then something: more than a half.
		{num(2, 0), num(199999999999999999, 0), num(100000000000000001, -34), api.OK},
		{num(-2, 40), num(199999999999999999, 0), num(-100000000000000001, 6), api.OK},
		{num(1, -40), num(2, 0), num(0, 0), api.OK},
		{num(3, -40), num(2, 0), num(2, -40), api.OK},
		{num(5, -40), num(2, 0), num(2, -40), api.OK},
		{num(1, -40), num(most, 40), num(0, 0), api.OK},
		{num(most, 40), num(1, -40), num(0, 0), api.ErrMuch},
		{num(1, 1), num(1, -40), num(0, 0), api.ErrMuch},
		{num(1, 0), num(1, -40), num(1, 40), api.OK},
		{num(1, 0), num(0, 0), num(0, 0), api.ErrZero},
		{num(0, 0), num(0, 0), num(0, 0), api.ErrZero},
	} {
		got, err := dec.Div(c.a, c.b)
		isNum(t, got, err, c.want, c.err)
	}
}

func TestA2Neg(t *testing.T) {
	for _, d := range []api.Dec{num(0, 0), num(1, 0), num(-35, -1), num(most, 40), num(-most, -40)} {
		got, err := dec.Neg(d)
		isNum(t, got, err, num(-d.Coef, d.Exp), api.OK)
	}
}

func TestA2Cmp(t *testing.T) {
	rising := []api.Dec{
		num(-most, 40), num(-1, 40), num(-most, 0), num(-35, -1), num(-3, 0), num(-25, -1), num(-1, -40),
		num(0, 0),
		num(1, -40), num(2, -40), num(most, -40), num(1, -1), num(11, -2), num(5, -1), num(most, -18), num(1, 0),
		num(9, 0), num(1, 1), num(11, 0), num(most, 0), num(1, 18), num(1, 40), num(most, 40),
	}
	for i, a := range rising {
		for j, b := range rising {
			want := 0
			if i < j {
				want = -1
			} else if i > j {
				want = 1
			}
			if got, err := dec.Cmp(a, b); got != want || err != api.OK {
				t.Errorf("Cmp(%v, %v): %d, %d comes, not %d", a, b, got, err, want)
			}
		}
	}
}

func TestA3Round(t *testing.T) {
	for _, c := range []struct {
		d      api.Dec
		places int
		want   api.Dec
		err    api.Errno
	}{
		{num(12345, -3), 2, num(1234, -2), api.OK},
		{num(12355, -3), 2, num(1236, -2), api.OK},
		{num(-12355, -3), 2, num(-1236, -2), api.OK},
		{num(123451, -4), 2, num(1235, -2), api.OK},
		{num(5, -1), 0, num(0, 0), api.OK},
		{num(-5, -1), 0, num(0, 0), api.OK},
		{num(15, -1), 0, num(2, 0), api.OK},
		{num(25, -1), 0, num(2, 0), api.OK},
		{num(-35, -1), 0, num(-4, 0), api.OK},
		{num(995, -1), 0, num(1, 2), api.OK},
		{num(5, 0), 0, num(5, 0), api.OK},
		{num(5, 0), 40, num(5, 0), api.OK},
		{num(5, 0), -1, num(0, 0), api.OK},
		{num(51, -1), -1, num(1, 1), api.OK},
		{num(15, 0), -1, num(2, 1), api.OK},
		{num(49, 0), -2, num(0, 0), api.OK},
		{num(1234567, 0), -3, num(1235, 3), api.OK},
		{num(most, 0), -18, num(1, 18), api.OK},
		{num(most, 0), -19, num(0, 0), api.OK},
		{num(most, -18), 17, num(1, 0), api.OK},
		{num(1, -40), 40, num(1, -40), api.OK},
		{num(5, -40), 39, num(0, 0), api.OK},
		{num(most, 40), -40, num(most, 40), api.OK},
		{num(most, 40), 40, num(most, 40), api.OK},
		{num(94, 39), -40, num(9, 40), api.OK},
		{num(95, 39), -40, num(0, 0), api.ErrMuch},
		{num(-96, 39), -40, num(0, 0), api.ErrMuch},
		{num(0, 0), -40, num(0, 0), api.OK},
		{num(1, 0), 41, num(0, 0), api.ErrRange},
		{num(1, 0), -41, num(0, 0), api.ErrRange},
		{num(1, 0), math.MaxInt, num(0, 0), api.ErrRange},
		{num(1, 0), math.MinInt, num(0, 0), api.ErrRange},
	} {
		got, err := dec.Round(c.d, c.places)
		isNum(t, got, err, c.want, c.err)
	}
}

func TestA3FloorAndCeil(t *testing.T) {
	for _, c := range []struct{ d, floor, ceil api.Dec }{
		{num(0, 0), num(0, 0), num(0, 0)},
		{num(7, 0), num(7, 0), num(7, 0)},
		{num(-7, 3), num(-7, 3), num(-7, 3)},
		{num(5, -1), num(0, 0), num(1, 0)},
		{num(-5, -1), num(-1, 0), num(0, 0)},
		{num(95, -1), num(9, 0), num(1, 1)},
		{num(-995, -1), num(-1, 2), num(-99, 0)},
		{num(1, -40), num(0, 0), num(1, 0)},
		{num(-1, -40), num(-1, 0), num(0, 0)},
		{num(most, -1), num(99999999999999999, 0), num(1, 17)},
		{num(-most, -17), num(-1, 1), num(-9, 0)},
		{num(most, -18), num(0, 0), num(1, 0)},
		{num(most, 40), num(most, 40), num(most, 40)},
	} {
		got, err := dec.Floor(c.d)
		isNum(t, got, err, c.floor, api.OK)
		got, err = dec.Ceil(c.d)
		isNum(t, got, err, c.ceil, api.OK)
	}
}

func TestA4Print(t *testing.T) {
	for _, c := range []struct {
		d    api.Dec
		want string
	}{
		{num(0, 0), "0"},
		{num(-1, 0), "-1"},
		{num(3, 7), "30000000"},
		{num(-12, 2), "-1200"},
		{num(15, -1), "1.5"},
		{num(5, -1), "0.5"},
		{num(-5, -3), "-0.005"},
		{num(123, -3), "0.123"},
		{num(1234, -3), "1.234"},
		{num(1, -40), "0." + strings.Repeat("0", 39) + "1"},
		{num(-most, -40), "-0." + strings.Repeat("0", 22) + strings.Repeat("9", 18)},
		{num(-most, 40), "-" + strings.Repeat("9", 18) + strings.Repeat("0", 40)},
	} {
		if got, err := dec.Print(c.d); got != c.want || err != api.OK {
			t.Errorf("Print(%v): %q, %d comes, not %q", c.d, got, err, c.want)
		}
		got, err := dec.Parse(c.want)
		isNum(t, got, err, c.d, api.OK)
	}
}

func TestA4Parse(t *testing.T) {
	nines, noughts := strings.Repeat("9", 100), strings.Repeat("0", 100)
	for _, c := range []struct {
		s    string
		want api.Dec
		err  api.Errno
	}{
		{"0", num(0, 0), api.OK},
		{"-0", num(0, 0), api.OK},
		{"-0.00", num(0, 0), api.OK},
		{"10", num(1, 1), api.OK},
		{"0.50", num(5, -1), api.OK},
		{"-1.50", num(-15, -1), api.OK},
		{"100.00", num(1, 2), api.OK},
		{"999999999999999999.5", num(1, 18), api.OK},
		{"999999999999999998.5", num(most-1, 0), api.OK},
		{"999999999999999998.50000000000000000000000000000000001", num(most, 0), api.OK},
		{"0." + noughts[:40] + "5", num(0, 0), api.OK},
		{"0." + noughts[:40] + "51", num(1, -40), api.OK},
		{"0." + noughts[:39] + "15", num(2, -40), api.OK},
		{"0." + noughts[:39] + "25", num(2, -40), api.OK},
		{"0." + noughts[:40] + "49" + nines[:50], num(0, 0), api.OK},
		{"0." + noughts[:97] + "1", num(0, 0), api.OK},
		{nines[:18] + noughts[:40], num(most, 40), api.OK},
		{nines[:18] + noughts[:39] + "1", num(most, 40), api.OK},
		{"1" + noughts[:40], num(1, 40), api.OK},
		{"1" + noughts[:41], num(0, 0), api.ErrMuch},
		{"-" + nines[:58], num(0, 0), api.ErrMuch},
		{nines, num(0, 0), api.ErrMuch},
		{"0." + nines[:98], num(1, 0), api.OK},
		{"0." + nines[:99], num(0, 0), api.ErrMuch},
		{strings.Repeat("x", 100), num(0, 0), api.ErrForm},
		{strings.Repeat("x", 101), num(0, 0), api.ErrMuch},
	} {
		got, err := dec.Parse(c.s)
		isNum(t, got, err, c.want, c.err)
	}
}

func TestA4ParseOfWhatIsNoNumber(t *testing.T) {
	for _, s := range []string{
		"", "-", "--1", "+1", "-+1", "1-", "00", "01", "-01", "00.5", "-00", ".", "-.", ".5", "-.5", "1.", "-1.", "1..2", "1.2.3", "1.-2",
		"1e3", "0x1", "1_0", "1,5", " 1", "1 ", "1\n", "1\x00", "\x001", "/", ":", "1/", "1:", "1./", "1.:", "٣", "1.٣", "１", "\xff", "1\xff", "Inf", "NaN", "null",
	} {
		got, err := dec.Parse(s)
		isNum(t, got, err, api.Dec{}, api.ErrForm)
	}
}
