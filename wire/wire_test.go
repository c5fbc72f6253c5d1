package wire_test

import (
	"bytes"
	"fmt"
	"math"
	"reflect"
	"slices"
	"strings"
	"sync"
	"testing"

	"verdict/api"
	"verdict/wire"
)

func kids(l ...api.Tree) api.Tree { return api.Tree{Kids: l} }

func n(x int64) api.Tree { return api.Tree{N: x} }

// chain is so many trees, each in the one ahead of it, the last one of which is end.
func chain(trees int, end api.Tree) api.Tree {
	for range trees - 1 {
		end = kids(end)
	}
	return end
}

// flat is so many trees: one, and all others in it.
func flat(trees int) api.Tree { return api.Tree{Kids: make([]api.Tree, trees-1)} }

// comb is a chain of so many trees, each with one more kid ahead of the next one.
func comb(trees int) api.Tree {
	t := api.Tree{}
	for range trees - 1 {
		t = kids(api.Tree{}, t)
	}
	return t
}

// sealed is b with its sum behind it.
func sealed(b ...byte) []byte {
	s := wire.Sum(b)
	return append(slices.Clone(b), byte(s), byte(s>>8), byte(s>>16), byte(s>>24))
}

// alike holds what is told against each other: a list without entries is as none.
func alike(a, b any) bool { return fmt.Sprintf("%+v", a) == fmt.Sprintf("%+v", b) }

func TestM1Wrong(t *testing.T) {
	bad := api.Tree{Tag: 256}
	last := flat(5000)
	last.Kids[4998] = bad
	behind := flat(5001)
	behind.Kids[4999] = bad
	first := flat(6000)
	first.Kids[0] = bad
	for i, c := range []struct {
		t    api.Tree
		want api.Errno
	}{
		{api.Tree{}, api.OK},
		{kids([]api.Tree{}...), api.OK},
		{api.Tree{Kids: []api.Tree{}}, api.OK},
		{api.Tree{Tag: 1, N: math.MinInt64, Text: "\xff\x00"}, api.OK},
		{api.Tree{Tag: 255, N: math.MaxInt64, Text: strings.Repeat("x", 200000)}, api.OK},
		{api.Tree{Tag: 256}, api.ErrRange},
		{api.Tree{Tag: -1}, api.ErrRange},
		{api.Tree{Tag: math.MinInt}, api.ErrRange},
		{api.Tree{Tag: math.MaxInt}, api.ErrRange},
		{kids(api.Tree{}, api.Tree{Tag: 255}, kids(bad)), api.ErrRange},
		{chain(40, api.Tree{}), api.OK},
		{chain(41, api.Tree{}), api.ErrMuch},
		{chain(40, bad), api.ErrRange},
		{chain(41, bad), api.ErrMuch},
		{kids(chain(39, api.Tree{}), chain(39, api.Tree{})), api.OK},
		{kids(chain(39, api.Tree{}), chain(40, api.Tree{})), api.ErrMuch},
		{chain(39, kids(api.Tree{}, api.Tree{}, bad)), api.ErrRange},
		// Each tree ahead of its kids, and these in their order.
		{kids(chain(40, api.Tree{}), bad), api.ErrMuch},
		{kids(bad, chain(40, api.Tree{})), api.ErrRange},
		{api.Tree{Tag: -1, Kids: []api.Tree{chain(40, api.Tree{})}}, api.ErrRange},
		{kids(chain(38, bad), chain(40, api.Tree{})), api.ErrRange},
		{flat(5000), api.OK},
		{flat(5001), api.ErrMuch},
		{flat(100000), api.ErrMuch},
		{last, api.ErrRange},
		{behind, api.ErrMuch},
		{first, api.ErrRange},
		{kids(flat(2500), flat(2499)), api.OK},
		{kids(flat(2500), flat(2500)), api.ErrMuch},
		{kids(flat(2500), flat(2500), bad), api.ErrMuch},
		{kids(flat(2500), bad, flat(2500)), api.ErrRange},
		{kids(flat(4998), bad), api.ErrRange},
		{kids(flat(4999), bad), api.ErrMuch},
		{comb(40), api.OK},
		{comb(41), api.ErrMuch},
	} {
		if got := wire.Wrong(c.t); got != c.want {
			t.Errorf("%d: %d comes, not %d", i, got, c.want)
		}
		if b, err := wire.Bytes(c.t); c.want != api.OK && (err != c.want || len(b) != 0) {
			t.Errorf("%d: %d bytes, %d comes, not %d", i, len(b), err, c.want)
		}
	}
}

func TestM1Sum(t *testing.T) {
	for _, c := range []struct {
		text string
		want uint32
	}{
		{"", 0},
		{"123456789", 0xCBF43926},
		{"a", 0xE8B7BE43},
		{"\x00", 0xD202EF8D},
		{"\x00\x00\x00\x00", 0x2144DF1C},
		{"\xff\xff\xff\xff", 0xFFFFFFFF},
		{"The quick brown fox jumps over the lazy dog", 0x414FA339},
	} {
		if got := wire.Sum([]byte(c.text)); got != c.want {
			t.Errorf("%q: %08X comes, not %08X", c.text, got, c.want)
		}
	}
	if wire.Sum(nil) != wire.Sum([]byte{}) {
		t.Error("nil and none are not the same")
	}
}

func TestM2Numbers(t *testing.T) {
	for _, c := range []struct {
		n    int64
		want []byte
	}{
		{0, []byte{0}},
		{-1, []byte{1}},
		{1, []byte{2}},
		{-2, []byte{3}},
		{2, []byte{4}},
		{63, []byte{126}},
		{-64, []byte{127}},
		{64, []byte{128, 1}},
		{-65, []byte{129, 1}},
		{8191, []byte{254, 127}},
		{-8192, []byte{255, 127}},
		{8192, []byte{128, 128, 1}},
		{-8193, []byte{129, 128, 1}},
		{1 << 61, []byte{128, 128, 128, 128, 128, 128, 128, 128, 64}},
		{1 << 62, []byte{128, 128, 128, 128, 128, 128, 128, 128, 128, 1}},
		{math.MaxInt64, []byte{254, 255, 255, 255, 255, 255, 255, 255, 255, 1}},
		{math.MinInt64, []byte{255, 255, 255, 255, 255, 255, 255, 255, 255, 1}},
	} {
		want := sealed(append(append([]byte{0}, c.want...), 0, 0)...)
		got, err := wire.Bytes(n(c.n))
		if err != api.OK || !bytes.Equal(got, want) {
			t.Errorf("%d: %v, %d comes, not %v", c.n, got, err, want)
		}
		if back, err := wire.Parse(want); err != api.OK || !alike(back, n(c.n)) {
			t.Errorf("%d: %+v, %d is read", c.n, back, err)
		}
	}
}

func TestM2Bytes(t *testing.T) {
	long := func(n int) []byte { return bytes.Repeat([]byte("x"), n) }
	for i, c := range []struct {
		t    api.Tree
		want []byte
	}{
		{api.Tree{}, []byte{0, 0, 0, 0}},
		{api.Tree{Tag: 255, N: -1, Text: "ab"}, []byte{255, 1, 2, 'a', 'b', 0}},
		{api.Tree{Tag: 128, Text: "\x00\xff"}, []byte{128, 0, 2, 0, 255, 0}},
		{kids(api.Tree{Tag: 1}, api.Tree{Tag: 2, Kids: []api.Tree{{Tag: 3}}}, n(7)), []byte{0, 0, 0, 3, 1, 0, 0, 0, 2, 0, 0, 1, 3, 0, 0, 0, 0, 14, 0, 0}},
		{api.Tree{Text: "é", Kids: []api.Tree{{Text: "y"}}}, []byte{0, 0, 2, 0xc3, 0xa9, 1, 0, 0, 1, 'y', 0}},
		{api.Tree{Text: string(long(127))}, slices.Concat([]byte{0, 0, 127}, long(127), []byte{0})},
		{api.Tree{Text: string(long(128))}, slices.Concat([]byte{0, 0, 128, 1}, long(128), []byte{0})},
		{api.Tree{Text: string(long(16384))}, slices.Concat([]byte{0, 0, 128, 128, 1}, long(16384), []byte{0})},
		{flat(128), append([]byte{0, 0, 0, 127}, make([]byte, 4*127)...)},
		{flat(129), append([]byte{0, 0, 0, 128, 1}, make([]byte, 4*128)...)},
		{flat(5000), append([]byte{0, 0, 0, 0x87, 0x27}, make([]byte, 4*4999)...)},
	} {
		want := sealed(c.want...)
		got, err := wire.Bytes(c.t)
		if err != api.OK || !bytes.Equal(got, want) {
			t.Errorf("%d: %v, %d comes, not %v", i, got, err, want)
		}
		if back, err := wire.Parse(want); err != api.OK || !alike(back, c.t) {
			t.Errorf("%d: %+v, %d is read", i, back, err)
		}
	}
	got, _ := wire.Bytes(api.Tree{})
	if want := []byte{0, 0, 0, 0, 0x1C, 0xDF, 0x44, 0x21}; !bytes.Equal(got, want) {
		t.Errorf("%v comes, not %v", got, want)
	}
}

// The four bytes of the sum count too: what is written can be read.
func TestM2Much(t *testing.T) {
	text := func(n int) api.Tree { return api.Tree{Text: strings.Repeat("x", n)} }
	two := func(a, b int) api.Tree { return kids(text(a), text(b)) }
	huge := text(1 << 27)
	all := kids(slices.Repeat([]api.Tree{huge}, 4999)...)
	wide := kids(slices.Repeat([]api.Tree{text(15)}, 4999)...)
	for i, c := range []struct {
		t    api.Tree
		size int
	}{
		{text(99990), 100000},
		{text(99991), 0},
		{text(99992), 0},
		{text(99994), 0},
		{text(99995), 0},
		{text(100000), 0},
		{two(49991, 49985), 100000 - 4},
		{two(49991, 49989), 100000},
		{two(49991, 49990), 0},
		{two(99990, 0), 0},
		{two(0, 99982), 100000},
		{two(0, 99983), 0},
		{wide, 4 + 5 + 4999*19},
		{kids(slices.Repeat([]api.Tree{text(16)}, 4999)...), 4 + 5 + 4999*20},
		{kids(slices.Repeat([]api.Tree{text(17)}, 4999)...), 0},
		{kids(slices.Repeat([]api.Tree{{N: math.MinInt64, Text: "1234567"}}, 4999)...), 4 + 5 + 4999*20},
		{kids(slices.Repeat([]api.Tree{{N: math.MinInt64, Text: "12345678"}}, 4999)...), 0},
		{huge, 0},
		{all, 0},
	} {
		b, err := wire.Bytes(c.t)
		if c.size == 0 && (err != api.ErrMuch || len(b) != 0) || c.size > 0 && (err != api.OK || len(b) != c.size) {
			t.Errorf("%d: %d bytes, %d come", i, len(b), err)
		}
		if back, err := wire.Parse(b); c.size > 0 && (err != api.OK || !reflect.DeepEqual(back, c.t)) {
			t.Errorf("%d: another tree, %d is read", i, err)
		}
	}
	// What is wrong comes first.
	if _, err := wire.Bytes(kids(huge, api.Tree{Tag: 256})); err != api.ErrRange {
		t.Errorf("%d comes", err)
	}
}

func TestM3Parse(t *testing.T) {
	nested := func(trees int) []byte {
		return append(bytes.Repeat([]byte{0, 0, 0, 1}, trees-1), 0, 0, 0, 0)
	}
	nines := bytes.Repeat([]byte{255}, 9)
	for i, c := range []struct {
		b    []byte
		want api.Errno
	}{
		{[]byte{0, 0, 0, 0}, api.OK},
		{nil, api.ErrForm},
		{[]byte{0}, api.ErrForm},
		{[]byte{0, 0, 0}, api.ErrForm},
		{[]byte{0, 0, 0, 0, 0}, api.ErrForm},
		{[]byte{0, 0, 0, 0, 0, 0, 0, 0}, api.ErrForm},
		// Numbers of more bytes than they need.
		{[]byte{0, 128, 0, 0, 0}, api.ErrForm},
		{[]byte{0, 129, 0, 0, 0}, api.ErrForm},
		{[]byte{0, 129, 128, 0, 0, 0}, api.ErrForm},
		{[]byte{0, 0, 128, 0, 0}, api.ErrForm},
		{[]byte{0, 0, 129, 0, 'a', 0}, api.ErrForm},
		{[]byte{0, 0, 0, 128, 0}, api.ErrForm},
		{[]byte{0, 0, 0, 129, 0, 0, 0, 0, 0}, api.ErrForm},
		{slices.Concat([]byte{0}, bytes.Repeat([]byte{128}, 9), []byte{0, 0, 0}), api.ErrForm},
		// And of more bits than there are.
		{slices.Concat([]byte{0}, nines, []byte{1, 0, 0}), api.OK},
		{slices.Concat([]byte{0}, nines, []byte{2, 0, 0}), api.ErrForm},
		{slices.Concat([]byte{0}, nines, []byte{3, 0, 0}), api.ErrForm},
		{slices.Concat([]byte{0}, nines, []byte{127, 0, 0}), api.ErrForm},
		{slices.Concat([]byte{0}, nines, []byte{128, 0, 0, 0}), api.ErrForm},
		{slices.Concat([]byte{0}, nines, []byte{129, 0, 0}), api.ErrForm},
		{slices.Concat([]byte{0}, nines, []byte{129, 1, 0, 0}), api.ErrForm},
		{slices.Concat([]byte{0}, nines, nines, nines), api.ErrForm},
		// Texts.
		{[]byte{0, 2, 1, 97, 0}, api.OK},
		{[]byte{0, 2, 2, 97, 0}, api.ErrForm},
		{[]byte{0, 2, 3, 97, 0}, api.ErrForm},
		{slices.Concat([]byte{0, 0}, nines, []byte{1, 0, 0}), api.ErrForm},
		{slices.Concat([]byte{0, 0}, nines[:8], []byte{127, 0, 0}), api.ErrForm},
		{[]byte{0, 0, 255, 255, 255, 255, 7, 0, 0}, api.ErrForm},
		{[]byte{0, 0, 255, 255, 255, 255, 15, 0, 0}, api.ErrForm},
		// Kids.
		{[]byte{0, 0, 0, 1, 7, 1, 0, 0}, api.OK},
		{[]byte{0, 0, 0, 1}, api.ErrForm},
		{[]byte{0, 0, 0, 1, 7, 1, 0}, api.ErrForm},
		{[]byte{0, 0, 0, 2, 7, 1, 0, 0}, api.ErrForm},
		{[]byte{0, 0, 0, 1, 7, 1, 0, 0, 0, 0, 0, 0}, api.ErrForm},
		{slices.Concat([]byte{0, 0, 0}, nines, []byte{1, 0, 0, 0, 0}), api.ErrForm},
		{[]byte{0, 0, 0, 255, 255, 255, 255, 7, 0, 0, 0, 0}, api.ErrForm},
		// Trees that are torn.
		{[]byte{}, api.ErrForm},
		{[]byte{1}, api.ErrForm},
		{[]byte{0, 0}, api.ErrForm},
		{[]byte{0, 128}, api.ErrForm},
		{[]byte{0, 0, 128}, api.ErrForm},
		{[]byte{0, 0, 0, 128}, api.ErrForm},
		// Trees with which something is wrong.
		{nested(40), api.OK},
		{nested(41), api.ErrForm},
		{nested(20000), api.ErrForm},
		{append([]byte{0, 0, 0, 0x87, 0x27}, make([]byte, 4*4999)...), api.OK},
		{append([]byte{0, 0, 0, 0x88, 0x27}, make([]byte, 4*5000)...), api.ErrForm},
		{append([]byte{0, 0, 0, 0xA6, 0xC3, 1}, make([]byte, 4*24998)...), api.ErrMuch},
		{append([]byte{0, 0, 0, 0x90, 0xC3, 1}, make([]byte, 4*24976)...), api.ErrForm},
	} {
		b := sealed(c.b...)
		got, err := wire.Parse(b)
		if err != c.want || err != api.OK && !reflect.DeepEqual(got, api.Tree{}) {
			t.Errorf("%d: %+v, %d comes, not %d", i, got, err, c.want)
		}
		if back, err := wire.Bytes(got); c.want == api.OK && (err != api.OK || !bytes.Equal(back, b)) {
			t.Errorf("%d: %v, %d is written, not %v", i, back, err, b)
		}
	}
}

// Too much comes ahead of too little, that ahead of a sum that does not fit, and that ahead of what is said.
func TestM3Order(t *testing.T) {
	full := sealed(append([]byte{0, 0, 0x96, 0x8D, 6}, make([]byte, 99991)...)...)
	for i, c := range []struct {
		b    []byte
		want api.Errno
	}{
		{nil, api.ErrForm},
		{[]byte{}, api.ErrForm},
		{[]byte{1, 2, 3}, api.ErrForm},
		{[]byte{0, 0, 0, 0}, api.ErrForm},
		{[]byte{0, 0, 0, 1}, api.ErrFit},
		{[]byte{1, 0, 0, 0}, api.ErrFit},
		{[]byte{0, 0, 0, 0, 0, 0, 0, 0}, api.ErrFit},
		{[]byte{0, 128, 0, 0, 0}, api.ErrFit},
		{[]byte{0, 0, 0, 0, 0x1C, 0xDF, 0x44, 0x21}, api.OK},
		{[]byte{0, 0, 0, 0, 0x21, 0x44, 0xDF, 0x1C}, api.ErrFit},
		{[]byte{0, 0, 0, 0, 0x1C, 0xDF, 0x44, 0x21, 0}, api.ErrFit},
		{[]byte{0, 0, 0, 0, 0x1C, 0xDF, 0x44}, api.ErrFit},
		{full, api.OK},
		{append([]byte{1}, full[1:]...), api.ErrFit},
		{append(slices.Clone(full), 0), api.ErrMuch},
		{make([]byte, 100000), api.ErrFit},
		{make([]byte, 100001), api.ErrMuch},
		{sealed(make([]byte, 99996)...), api.ErrForm},
		{sealed(make([]byte, 99997)...), api.ErrMuch},
		{make([]byte, 1<<20), api.ErrMuch},
	} {
		got, err := wire.Parse(c.b)
		if err != c.want || err != api.OK && !reflect.DeepEqual(got, api.Tree{}) {
			t.Errorf("%d: %d comes, not %d", i, err, c.want)
		}
	}
}

// Whichever bit is turned over, the sum tells.
func TestM3Torn(t *testing.T) {
	b, _ := wire.Bytes(wire.Pack(full()))
	for i := range b {
		for bit := range 8 {
			torn := slices.Clone(b)
			torn[i] ^= 1 << bit
			if _, err := wire.Parse(torn); err != api.ErrFit {
				t.Errorf("byte %d, bit %d: %d comes", i, bit, err)
			}
		}
		if _, err := wire.Parse(b[:i]); i >= 4 && err != api.ErrFit || i < 4 && err != api.ErrForm {
			t.Errorf("%d bytes: %d comes", i, err)
		}
	}
}

// full is a command in which each field says something.
func full() api.Cmd {
	v := func(kind int, list ...api.Value) api.Value {
		return api.Value{Kind: kind, Yes: kind%2 == 0, Num: api.Dec{Coef: int64(7 * kind), Exp: -kind}, Text: strings.Repeat("v", kind), List: list}
	}
	x := api.Expr{Kind: 17, Val: v(3), Name: "x", Kids: []api.Expr{{Kind: 18, Name: "y", Val: v(1, v(2))}, {Kind: 19, Kids: make([]api.Expr, 2)}}}
	te := api.Test{Kind: 8, A: v(4), B: v(5, v(1), v(2, v(3))), OpenA: true, Kids: []api.Test{{Kind: 7, A: v(1), OpenB: true}, {Kind: 6, B: v(2), OpenA: true, OpenB: true}}}
	return api.Cmd{
		Session: 11, Seq: 12, Kind: 13, Name: "command", To: 14,
		Table: api.Table{
			Name: "table", Policy: 15,
			Ins:   []api.Column{{Name: "in", Kind: 3}, {Name: "on", Kind: 4, Order: []api.Value{v(1)}}},
			Outs:  []api.Column{{Name: "out", Kind: 2, Order: []api.Value{v(2), v(5, v(3), v(4))}}},
			Rules: []api.Rule{{Tests: []api.Test{te, {}}, Outs: []api.Expr{x, {}, x}}, {Outs: []api.Expr{{}}}, {Tests: []api.Test{{Kind: 1}}}},
		},
	}
}

func TestM4Pack(t *testing.T) {
	named := func(x int64, text string, l ...api.Tree) api.Tree { return api.Tree{N: x, Text: text, Kids: l} }
	null := func() api.Tree { return kids(n(0), n(0), n(0)) }
	bare := named(0, "", n(0), n(0), n(0), kids(n(0), n(0), n(0)))
	with := func(change func(*api.Table)) api.Cmd {
		c := api.Cmd{}
		change(&c.Table)
		return c
	}
	packed := func(ins, outs, rules []api.Tree) api.Tree {
		return kids(n(0), n(0), n(0), kids(kids(ins...), kids(outs...), kids(rules...)))
	}
	ordered := func(v api.Value) api.Cmd {
		return with(func(t *api.Table) { t.Ins = []api.Column{{Order: []api.Value{v}}} })
	}
	order := func(v api.Tree) api.Tree { return packed([]api.Tree{kids(kids(v))}, nil, nil) }
	tested := func(x api.Test) api.Cmd {
		return with(func(t *api.Table) { t.Rules = []api.Rule{{Tests: []api.Test{x}}} })
	}
	tests := func(l ...api.Tree) api.Tree { return packed(nil, nil, []api.Tree{kids(kids(l...), n(0))}) }
	said := func(x api.Expr) api.Cmd {
		return with(func(t *api.Table) { t.Rules = []api.Rule{{Outs: []api.Expr{x}}} })
	}
	exprs := func(l ...api.Tree) api.Tree { return packed(nil, nil, []api.Tree{kids(n(0), kids(l...))}) }
	for i, c := range []struct {
		c    api.Cmd
		want api.Tree
	}{
		{api.Cmd{}, bare},
		{api.Cmd{Kind: -3, Name: "n"}, named(-3, "n", bare.Kids...)},
		{api.Cmd{Session: 1, Seq: 2, To: 3}, kids(n(1), n(2), n(3), bare.Kids[3])},
		{api.Cmd{Session: math.MinInt, Seq: math.MaxInt}, kids(n(math.MinInt64), n(math.MaxInt64), n(0), bare.Kids[3])},
		{with(func(t *api.Table) { t.Policy, t.Name = 5, "t\xff" }), kids(n(0), n(0), n(0), named(5, "t\xff", bare.Kids[3].Kids...))},
		{with(func(t *api.Table) { t.Ins = []api.Column{{}, {Kind: 2, Name: "i"}} }), packed([]api.Tree{kids(n(0)), named(2, "i", n(0))}, nil, nil)},
		{with(func(t *api.Table) { t.Outs = []api.Column{{Kind: 2, Name: "o"}} }), packed(nil, []api.Tree{named(2, "o", n(0))}, nil)},
		{with(func(t *api.Table) { t.Rules = make([]api.Rule, 2) }), packed(nil, nil, []api.Tree{kids(n(0), n(0)), kids(n(0), n(0))})},
		{ordered(api.Value{}), order(null())},
		{ordered(api.Value{Text: "x"}), order(named(0, "x", null().Kids...))},
		{ordered(api.Value{Num: api.Dec{Coef: 9}}), order(named(9, "", null().Kids...))},
		{ordered(api.Value{Num: api.Dec{Exp: 9}}), order(kids(n(9), n(0), n(0)))},
		{ordered(api.Value{Yes: true}), order(kids(n(0), n(1), n(0)))},
		{ordered(api.Value{Kind: 5}), order(api.Tree{Tag: 5, Kids: []api.Tree{n(0), n(0), n(5)}})},
		{ordered(api.Value{List: []api.Value{{}, {Text: "y"}}}), order(kids(n(0), n(0), n(0), null(), named(0, "y", null().Kids...)))},
		{tested(api.Test{}), tests(kids(null(), null(), n(0), n(0), n(0)))},
		{tested(api.Test{Kind: 7, A: api.Value{Text: "a"}}), tests(named(7, "", named(0, "a", null().Kids...), null(), n(0), n(0), n(0)))},
		{tested(api.Test{B: api.Value{Text: "b"}}), tests(kids(null(), named(0, "b", null().Kids...), n(0), n(0), n(0)))},
		{tested(api.Test{OpenA: true}), tests(kids(null(), null(), n(1), n(0), n(0)))},
		{tested(api.Test{OpenB: true}), tests(kids(null(), null(), n(0), n(1), n(0)))},
		{tested(api.Test{Kids: make([]api.Test, 1)}), tests(kids(null(), null(), n(0), n(0), kids(kids(null(), null(), n(0), n(0), n(0)))))},
		{said(api.Expr{}), exprs(kids(null(), n(0)))},
		{said(api.Expr{Kind: 4, Name: "f"}), exprs(named(4, "f", null(), n(0)))},
		{said(api.Expr{Val: api.Value{Yes: true}}), exprs(kids(kids(n(0), n(1), n(0)), n(0)))},
		{said(api.Expr{Kids: []api.Expr{{Kind: 2}, {}}}), exprs(kids(null(), kids(named(2, "", null(), n(0)), kids(null(), n(0)))))},
	} {
		got := wire.Pack(c.c)
		if !alike(got, c.want) {
			t.Errorf("%d: %+v comes, not %+v", i, got, c.want)
		}
		if back, err := wire.Unpack(c.want); err != api.OK || !alike(back, c.c) {
			t.Errorf("%d: %+v, %d is unpacked, not %+v", i, back, err, c.c)
		}
	}
}

// A value's tag is its kind modulo 256, which is from 0 to 255, whatever the kind is: so nothing is wrong with it.
func TestM4Tags(t *testing.T) {
	for _, c := range []struct{ kind, tag int }{
		{0, 0}, {1, 1}, {5, 5}, {255, 255}, {256, 0}, {257, 1}, {511, 255}, {512, 0}, {-1, 255}, {-2, 254}, {-255, 1}, {-256, 0}, {-257, 255}, {math.MinInt, 0}, {math.MaxInt, 255},
	} {
		cmd := api.Cmd{Table: api.Table{Outs: []api.Column{{Order: []api.Value{{Kind: c.kind}}}}}}
		p := wire.Pack(cmd)
		v := &p.Kids[3].Kids[1].Kids[0].Kids[0].Kids[0]
		if v.Tag != c.tag || v.Kids[2].N != int64(c.kind) || wire.Wrong(p) != api.OK {
			t.Errorf("%d: %+v comes", c.kind, v)
		}
		if back, err := wire.Unpack(p); err != api.OK || !alike(back, cmd) {
			t.Errorf("%d: %+v, %d is unpacked", c.kind, back, err)
		}
		for _, tag := range []int{c.tag + 1, c.tag - 1, c.tag + 256, c.tag - 256, c.kind} {
			v.Tag = tag
			if back, err := wire.Unpack(p); tag != c.tag && (err != api.ErrForm || !reflect.DeepEqual(back, api.Cmd{})) {
				t.Errorf("%d, tag %d: %+v, %d is unpacked", c.kind, tag, back, err)
			}
		}
	}
}

// What is packed, written, read and unpacked is the same.
func TestM2M4ThereAndBack(t *testing.T) {
	for i, c := range []api.Cmd{{}, full(), {Kind: 1, Table: full().Table}, {Name: "\xff\x00é", To: math.MinInt}} {
		b, err := wire.Bytes(wire.Pack(c))
		if err != api.OK {
			t.Fatal(err)
		}
		p, err := wire.Parse(b)
		if err != api.OK || !alike(p, wire.Pack(c)) {
			t.Errorf("%d: %+v, %d is read", i, p, err)
		}
		if back, err := wire.Unpack(p); err != api.OK || !alike(back, c) {
			t.Errorf("%d: %+v, %d is unpacked", i, back, err)
		}
	}
}

// within are all trees of t, to be changed where they are.
func within(t *api.Tree) []*api.Tree {
	l := []*api.Tree{t}
	for i := range t.Kids {
		l = append(l, within(&t.Kids[i])...)
	}
	return l
}

// Each tree of a pack, changed in each way: it is a pack still where that field says something, and else none.
func TestM4Unpack(t *testing.T) {
	whole := wire.Pack(full())
	changes := []func(*api.Tree){
		func(x *api.Tree) { x.Tag++ },
		func(x *api.Tree) { x.Tag-- },
		func(x *api.Tree) { x.Tag += 256 },
		func(x *api.Tree) { x.N++ },
		func(x *api.Tree) { x.N-- },
		func(x *api.Tree) { x.N = 2 },
		func(x *api.Tree) { x.N = math.MinInt64 },
		func(x *api.Tree) { x.N += 256 },
		func(x *api.Tree) { x.Text += "z" },
		func(x *api.Tree) { x.Kids = append(slices.Clip(x.Kids), api.Tree{}) },
		func(x *api.Tree) { x.Kids = append(slices.Clip(x.Kids), kids(n(0), n(0), n(0))) },
		func(x *api.Tree) { x.Kids = append(slices.Clip(x.Kids), kids(n(0), n(0))) },
		func(x *api.Tree) { x.Kids = x.Kids[:max(len(x.Kids)-1, 0)] },
		func(x *api.Tree) { x.Kids = x.Kids[min(1, len(x.Kids)):] },
		func(x *api.Tree) { x.Kids = nil },
		func(x *api.Tree) { slices.Reverse(x.Kids) },
		func(x *api.Tree) { *x = api.Tree{} },
		func(x *api.Tree) { *x = wire.Pack(api.Cmd{}) },
	}
	right := 0
	for at := range within(&whole) {
		for i, change := range changes {
			p := wire.Pack(full())
			change(within(&p)[at])
			got, err := wire.Unpack(p)
			want, ok := unpacked(p)
			if ok {
				right++
			}
			if ok != (err == api.OK) || !ok && err != api.ErrForm || !alike(got, want) {
				t.Errorf("tree %d, change %d: %+v, %d comes, not %+v, %t", at, i, got, err, want, ok)
			}
		}
	}
	if all := len(within(&whole)) * len(changes); right < all/10 || right > all*9/10 {
		t.Errorf("%d of %d are right", right, all)
	}
}

func TestM4UnpackOfOthers(t *testing.T) {
	for i, x := range []api.Tree{
		{},
		n(1),
		kids(n(0), n(0), n(0), n(0)),
		kids(n(0), n(0), n(0), flat(3)),
		kids(n(0), n(0), n(0), flat(5)),
		kids(n(0), n(0), n(0), flat(4), n(0)),
		kids(n(0), n(0), flat(4), n(0)),
		flat(5000),
		chain(40, api.Tree{}),
		{Tag: 1, Kids: wire.Pack(api.Cmd{}).Kids},
		wire.Pack(full()).Kids[3],
		kids(wire.Pack(full())),
	} {
		if got, err := wire.Unpack(x); err != api.ErrForm || !reflect.DeepEqual(got, api.Cmd{}) {
			t.Errorf("%d: %+v, %d comes", i, got, err)
		}
	}
	// nil and a list without entries are the same.
	c := api.Cmd{Table: api.Table{Ins: []api.Column{}, Outs: []api.Column{{Order: []api.Value{{List: []api.Value{}}}}}, Rules: []api.Rule{{Tests: []api.Test{}, Outs: []api.Expr{{Kids: []api.Expr{}}}}}}}
	p := wire.Pack(c)
	for _, x := range within(&p) {
		if len(x.Kids) == 0 {
			x.Kids = []api.Tree{}
		}
	}
	if got, err := wire.Unpack(p); err != api.OK || !alike(got, c) {
		t.Errorf("%+v, %d comes", got, err)
	}
}

// roomy is x with spare room behind all lists.
func roomy(x reflect.Value) {
	switch x.Kind() {
	case reflect.Struct:
		for i := range x.NumField() {
			roomy(x.Field(i))
		}
	case reflect.Slice:
		l := reflect.MakeSlice(x.Type(), x.Len(), x.Len()+2)
		reflect.Copy(l, x)
		rest := l.Slice(x.Len(), x.Len()+2)
		for i := range 2 {
			litter(rest.Index(i))
		}
		x.Set(l)
		for i := range l.Len() {
			roomy(l.Index(i))
		}
	}
}

// litter puts something into x.
func litter(x reflect.Value) {
	switch x.Kind() {
	case reflect.Struct:
		for i := range x.NumField() {
			litter(x.Field(i))
		}
	case reflect.String:
		x.SetString("litter")
	case reflect.Int, reflect.Int64:
		x.SetInt(77)
	case reflect.Uint8:
		x.SetUint(77)
	}
}

// room tells x with all its lists as long as there is room.
func room(x reflect.Value) string {
	switch x.Kind() {
	case reflect.Struct:
		s := ""
		for i := range x.NumField() {
			s += room(x.Field(i)) + ","
		}
		return s
	case reflect.Slice:
		s := "["
		for i := range x.Cap() {
			s += room(x.Slice3(0, x.Cap(), x.Cap()).Index(i)) + ";"
		}
		return s + "]"
	}
	return fmt.Sprint(x)
}

// Neither lists nor the spare room behind them are changed, nor looked at.
func TestM1M4OnlyRead(t *testing.T) {
	b, _ := wire.Bytes(wire.Pack(full()))
	for i, c := range []struct {
		given any
		call  func(any) string
	}{
		{wire.Pack(full()), func(x any) string { return fmt.Sprint(wire.Wrong(x.(api.Tree))) }},
		{wire.Pack(full()), func(x any) string { return fmt.Sprint(wire.Bytes(x.(api.Tree))) }},
		{wire.Pack(full()), func(x any) string { return fmt.Sprint(wire.Unpack(x.(api.Tree))) }},
		{flat(7), func(x any) string { return fmt.Sprint(wire.Unpack(x.(api.Tree))) }},
		{full(), func(x any) string { return fmt.Sprint(wire.Pack(x.(api.Cmd))) }},
		{b, func(x any) string { return fmt.Sprint(wire.Sum(x.([]byte))) }},
		{b, func(x any) string { return fmt.Sprint(wire.Parse(x.([]byte))) }},
		{b[:9], func(x any) string { return fmt.Sprint(wire.Parse(x.([]byte))) }},
	} {
		x := reflect.New(reflect.TypeOf(c.given)).Elem()
		x.Set(reflect.ValueOf(c.given))
		want := c.call(x.Interface())
		roomy(x)
		before := room(x)
		if got := c.call(x.Interface()); got != want {
			t.Errorf("%d: %s comes, not %s", i, got, want)
		}
		if after := room(x); after != before {
			t.Errorf("%d: %s is left, not %s", i, after, before)
		}
	}
}

// scribble writes over all lists of x, and the room behind them.
func scribble(x reflect.Value) {
	switch x.Kind() {
	case reflect.Struct:
		for i := range x.NumField() {
			scribble(x.Field(i))
		}
	case reflect.Slice:
		all := x.Slice3(0, x.Cap(), x.Cap())
		for i := range all.Len() {
			scribble(all.Index(i))
			litter(all.Index(i))
		}
	}
}

// What is answered shares nothing with what was handed in, and no two of its lists share anything.
func TestM2M4AnswersAreNewMemory(t *testing.T) {
	p := wire.Pack(full())
	b, _ := wire.Bytes(p)
	c := full()
	for i, call := range []func() any{
		func() any { x, _ := wire.Bytes(p); return &x },
		func() any { x, _ := wire.Parse(b); return &x },
		func() any { x := wire.Pack(c); return &x },
		func() any { x, _ := wire.Unpack(p); return &x },
	} {
		want := fmt.Sprintf("%+v", reflect.ValueOf(call()).Elem().Interface())
		scribble(reflect.ValueOf(call()).Elem())
		if got := fmt.Sprintf("%+v", reflect.ValueOf(call()).Elem().Interface()); got != want {
			t.Errorf("%d: %s comes, not %s", i, got, want)
		}
	}
	got, _ := wire.Parse(b)
	unpacked, _ := wire.Unpack(p)
	packed := wire.Pack(c)
	scribble(reflect.ValueOf(&p).Elem())
	scribble(reflect.ValueOf(&c).Elem())
	clear(b)
	if !alike(got, wire.Pack(full())) || !alike(packed, got) || !alike(unpacked, full()) {
		t.Errorf("%+v, %+v, %+v is left", got, packed, unpacked)
	}
	for _, x := range []any{&got, &packed, &unpacked} {
		places := map[uintptr]int{}
		count(reflect.ValueOf(x).Elem(), places)
		for at, times := range places {
			if times > 1 {
				t.Errorf("%T: %x is there %d times", x, at, times)
			}
		}
	}
}

// count tells where the entries of all lists of x are, and those for which there is room.
func count(x reflect.Value, places map[uintptr]int) {
	switch x.Kind() {
	case reflect.Struct:
		for i := range x.NumField() {
			count(x.Field(i), places)
		}
	case reflect.Slice:
		for i := range x.Cap() {
			places[x.Slice(0, x.Cap()).Index(i).Addr().Pointer()]++
		}
		for i := range x.Len() {
			count(x.Index(i), places)
		}
	}
}

// endless is a list of so many trees, of which each one but the first three has that list as its kids.
func endless(trees int) []api.Tree {
	l := make([]api.Tree, trees)
	for i := 3; i < trees; i++ {
		l[i].Kids = l
	}
	return l
}

func TestM1M4Endless(t *testing.T) {
	for _, trees := range []int{4, 5, 100, 10000} {
		l := endless(trees)
		x := kids(l...)
		if err := wire.Wrong(x); err != api.ErrMuch {
			t.Errorf("%d comes", err)
		}
		if _, err := wire.Bytes(x); err != api.ErrMuch {
			t.Errorf("%d comes", err)
		}
		if _, err := wire.Unpack(x); err != api.ErrForm {
			t.Errorf("%d comes", err)
		}
		// A value that holds itself, an expression and a test.
		null := kids(n(0), n(0), n(0))
		exprs := make([]api.Tree, trees)
		tests := make([]api.Tree, trees)
		for i := range trees {
			exprs[i] = kids(null, kids(exprs...))
			exprs[i].Kids[1].Kids = exprs
			tests[i] = kids(null, null, n(0), n(0), kids())
			tests[i].Kids[4].Kids = tests
		}
		for i, x := range []api.Tree{
			kids(kids(kids(l[3])), n(0), n(0)),
			kids(n(0), kids(kids(l[3:]...)), n(0)),
			kids(n(0), n(0), kids(kids(n(0), kids(exprs...)))),
			kids(n(0), n(0), kids(kids(kids(tests...), n(0)))),
		} {
			if got, err := wire.Unpack(kids(n(0), n(0), n(0), x)); err != api.ErrForm || !reflect.DeepEqual(got, api.Cmd{}) {
				t.Errorf("%d, %d: %d comes", trees, i, err)
			}
		}
	}
}

// Of a command that holds itself nothing is promised but that the call ends.
func TestM4PackOfEndless(t *testing.T) {
	tests, exprs, values := make([]api.Test, 1), make([]api.Expr, 1), make([]api.Value, 1)
	tests[0].Kids, exprs[0].Kids, values[0].List = tests, exprs, values
	wire.Pack(api.Cmd{Table: api.Table{Rules: []api.Rule{{Tests: tests}}}})
	wire.Pack(api.Cmd{Table: api.Table{Rules: []api.Rule{{Outs: exprs}}}})
	wire.Pack(api.Cmd{Table: api.Table{Ins: []api.Column{{Order: values}}}})
}

// deepest is a command with a value, an expression and a test that are nested so many times.
func deepest(times int) api.Cmd {
	v, x, te := api.Value{Kind: 1}, api.Expr{Kind: 2}, api.Test{Kind: 3}
	for range times {
		v = api.Value{Kind: 4, List: []api.Value{v}}
		x = api.Expr{Kind: 5, Kids: []api.Expr{x}}
		te = api.Test{Kind: 6, Kids: []api.Test{te}}
	}
	return api.Cmd{Table: api.Table{Ins: []api.Column{{Order: []api.Value{v}}}, Rules: []api.Rule{{Tests: []api.Test{te}, Outs: []api.Expr{x}}}}}
}

// As deep as anything may be nested.
func TestM4Deep(t *testing.T) {
	const times = 1<<16 - 8
	c := deepest(times)
	p := wire.Pack(c)
	if err := wire.Wrong(p); err != api.ErrMuch {
		t.Errorf("%d comes", err)
	}
	got, err := wire.Unpack(p)
	if err != api.OK {
		t.Fatal(err)
	}
	v, x, te := got.Table.Ins[0].Order, got.Table.Rules[0].Outs, got.Table.Rules[0].Tests
	for i := range times {
		if len(v) != 1 || len(x) != 1 || len(te) != 1 || v[0].Kind != 4 || x[0].Kind != 5 || te[0].Kind != 6 {
			t.Fatalf("%d: %+v, %+v, %+v comes", i, v, x, te)
		}
		v, x, te = v[0].List, x[0].Kids, te[0].Kids
	}
	if !alike(v, []api.Value{{Kind: 1}}) || !alike(x, []api.Expr{{Kind: 2}}) || !alike(te, []api.Test{{Kind: 3}}) {
		t.Errorf("%+v, %+v, %+v comes", v, x, te)
	}
}

func TestM4Many(t *testing.T) {
	values := make([]api.Value, 50000)
	for i := range values {
		values[i] = api.Value{Kind: i, Text: "x"}
	}
	rules := make([]api.Rule, 20000)
	for i := range rules {
		rules[i].Tests = []api.Test{{Kind: i, Kids: make([]api.Test, i%3)}}
		rules[i].Outs = []api.Expr{{Kind: -i}}
	}
	c := api.Cmd{Table: api.Table{Outs: []api.Column{{Order: values}, {Order: []api.Value{{List: values}}}}, Rules: rules}}
	p := wire.Pack(c)
	if got, err := wire.Unpack(p); err != api.OK || !alike(got, c) {
		t.Errorf("%d comes, or another command", err)
	}
	last := &p.Kids[3].Kids[2].Kids[19999].Kids[1].Kids[0].Kids[0].Kids[1]
	last.N = 2
	if _, err := wire.Unpack(p); err != api.ErrForm {
		t.Errorf("%d comes", err)
	}
}

// Where kids are the same list many times, there are more trees than can be gone over one by one: one wrong tree is found among them.
func TestM4UnpackOfTheSameListManyTimes(t *testing.T) {
	null := kids(n(0), n(0), n(0))
	v, x, te := null, kids(null, n(0)), kids(null, null, n(0), n(0), n(0))
	wrong := func(last api.Tree) api.Tree {
		last.Tag = 1
		return last
	}
	of := func(l ...api.Tree) api.Tree { return kids(n(0), n(0), n(0), kids(l...)) }
	for i := range 12 {
		const many = 5000
		vs := slices.Repeat([]api.Tree{v}, many)
		xs := slices.Repeat([]api.Tree{x}, many)
		ts := slices.Repeat([]api.Tree{te}, many)
		v = kids(append(slices.Clone(null.Kids), vs...)...)
		x = kids(null, kids(xs...))
		te = kids(null, null, n(0), n(0), kids(ts...))
		for j, p := range []api.Tree{
			of(kids(kids(kids(v, wrong(null)))), n(0), n(0)),
			of(n(0), kids(kids(kids(v, wrong(v)))), n(0)),
			of(n(0), n(0), kids(kids(n(0), kids(x, wrong(x))))),
			of(n(0), n(0), kids(kids(kids(te, wrong(te)), n(0)))),
			// Right as an expression, not as a test.
			of(n(0), n(0), kids(kids(n(0), kids(x)), kids(kids(x), n(0)))),
		} {
			if _, err := wire.Unpack(p); err != api.ErrForm {
				t.Errorf("%d, %d: %d comes", i, j, err)
			}
		}
	}
}

// What is known of a list says nothing of a longer one, nor of the same one where another form is asked for.
func TestM4UnpackOfListsThatShare(t *testing.T) {
	null := kids(n(0), n(0), n(0))
	bad := kids(n(0), n(2), n(0))
	l := []api.Tree{null, null, bad, null}
	column := func(from, to int) api.Tree { return kids(kids(l[from:to]...)) }
	with := func(columns ...api.Tree) api.Tree {
		return kids(n(0), n(0), n(0), kids(kids(columns...), n(0), n(0)))
	}
	// Each one of l is a value with Yes, as an expression it is none, and as a list of three numbers it is no list of values.
	for i, c := range []struct {
		t    api.Tree
		want api.Errno
	}{
		{with(column(0, 2)), api.OK},
		{with(column(0, 2), column(0, 1), column(0, 2), column(1, 2), column(3, 4), column(0, 0)), api.OK},
		{with(column(0, 1), column(0, 2), column(0, 3)), api.ErrForm},
		{with(column(0, 2), column(0, 4)), api.ErrForm},
		{with(column(1, 2), column(1, 4)), api.ErrForm},
		{with(column(3, 4), column(2, 4)), api.ErrForm},
		{kids(n(0), n(0), n(0), kids(kids(column(0, 2)), n(0), kids(kids(n(0), kids(l[:2]...))))), api.ErrForm},
		{kids(n(0), n(0), n(0), kids(kids(column(0, 2)), n(0), kids(kids(kids(l[:2]...), n(0))))), api.ErrForm},
		{kids(n(0), n(0), n(0), kids(kids(column(0, 2)), kids(l[:2]...), n(0))), api.ErrForm},
		{kids(n(0), n(0), n(0), kids(kids(column(0, 2)), n(0), kids(l[:2]...))), api.ErrForm},
	} {
		got, err := wire.Unpack(c.t)
		if want, ok := unpacked(c.t); err != c.want || ok != (err == api.OK) || !alike(got, want) {
			t.Errorf("%d: %+v, %d comes, not %d", i, got, err, c.want)
		}
	}
}

func TestM1M4AtOnce(t *testing.T) {
	c, p := full(), wire.Pack(full())
	b, _ := wire.Bytes(p)
	var wait sync.WaitGroup
	for range 8 {
		wait.Go(func() {
			for range 50 {
				if got, err := wire.Bytes(wire.Pack(c)); err != api.OK || !bytes.Equal(got, b) {
					t.Errorf("%v, %d comes", got, err)
				}
				if got, err := wire.Parse(b); err != api.OK || !alike(got, p) {
					t.Errorf("%+v, %d comes", got, err)
				}
				if got, err := wire.Unpack(p); err != api.OK || !alike(got, c) {
					t.Errorf("%+v, %d comes", got, err)
				}
			}
		})
	}
	wait.Wait()
}

// writes holds Written against Bytes of Pack.
func writes(t *testing.T, c api.Cmd) api.Errno {
	t.Helper()
	got, err := wire.Written(c)
	if want, wantErr := wire.Bytes(wire.Pack(c)); err != wantErr || !bytes.Equal(got, want) {
		t.Errorf("%d bytes, %d comes, not %d, %d", len(got), err, len(want), wantErr)
	}
	return err
}

func TestM2M4Written(t *testing.T) {
	for _, c := range []api.Cmd{{}, full(), {Name: "\xff\x00é", To: math.MinInt}} {
		writes(t, c)
	}
	// About as many trees as there may be, whichever of them come last: a command without anything is eight.
	for columns := range 6 {
		for rules := 1650; rules < 1670; rules++ {
			for values := range 3 {
				x := api.Table{Ins: make([]api.Column, columns), Rules: make([]api.Rule, rules)}
				if columns > 0 {
					x.Ins[0].Order = make([]api.Value, values)
				}
				x.Rules[rules-1] = api.Rule{Tests: make([]api.Test, values%2), Outs: make([]api.Expr, values/2)}
				c := api.Cmd{Table: x}
				want := api.OK
				if trees := len(within(new(wire.Pack(c)))); trees > 5000 {
					want = api.ErrMuch
				}
				if err := writes(t, c); err != want {
					t.Errorf("%d, %d, %d: %d comes, not %d", columns, rules, values, err, want)
				}
			}
		}
	}
	// About as deep as there may be.
	for times := range 50 {
		writes(t, deepest(times))
	}
	// About as many bytes as there may be.
	for size := 99900; size < 100010; size++ {
		writes(t, api.Cmd{Name: strings.Repeat("x", size)})
	}
}

// However little room a command takes that holds itself, or has the same list many times, it is soon told that it is too much.
func TestM2M4WrittenOfEndless(t *testing.T) {
	for _, many := range []int{1, 2, 8192} {
		tests, exprs, values := make([]api.Test, many), make([]api.Expr, many), make([]api.Value, many)
		for i := range many {
			tests[i].Kids, exprs[i].Kids, values[i].List = tests, exprs, values
		}
		for _, x := range []api.Table{
			{Rules: []api.Rule{{Tests: tests}}},
			{Rules: []api.Rule{{Outs: exprs}}},
			{Outs: []api.Column{{Order: values}}},
			{Rules: slices.Repeat([]api.Rule{{Tests: tests, Outs: exprs}}, many)},
		} {
			for range 50 {
				if b, err := wire.Written(api.Cmd{Table: x}); err != api.ErrMuch || len(b) != 0 {
					t.Fatalf("%d: %d bytes, %d comes", many, len(b), err)
				}
			}
		}
	}
}
