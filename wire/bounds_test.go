package wire

import (
	"testing"

	"verdict/api"
)

func trees(t api.Tree) int {
	n := 1
	for _, kid := range t.Kids {
		n += trees(kid)
	}
	return n
}

// However many kids there are in each that holds itself, a packer ends a little behind its bounds.
func TestM4PackerEnds(t *testing.T) {
	for _, many := range []int{1, 2, 3, 1000} {
		tests, exprs, values := make([]api.Test, many), make([]api.Expr, many), make([]api.Value, many)
		for i := range many {
			tests[i].Kids, exprs[i].Kids, values[i].List = tests, exprs, values
		}
		rules := []api.Rule{{Tests: tests}, {Outs: exprs}}
		for i, x := range []api.Table{
			{Rules: rules[:1]},
			{Rules: rules[1:]},
			{Rules: rules},
			{Ins: []api.Column{{Order: values}}},
			{Rules: []api.Rule{{Tests: []api.Test{{A: values[0]}}}}},
		} {
			p := packer{left: 5000, open: mostOpen - 100}
			if got := trees(p.command(api.Cmd{Table: x})); many > 1 && got < 5000 || got > 5000+100*20 || got != 5000-p.left || p.open != mostOpen-100 {
				t.Errorf("%d, %d: %d trees come, %+v is left", many, i, got, p)
			}
		}
	}
}

// Where nothing has to be cut off, nothing is.
func TestM4PackerKeepsWithin(t *testing.T) {
	c := api.Cmd{Table: api.Table{Outs: []api.Column{{Order: make([]api.Value, 30)}}, Rules: make([]api.Rule, 40)}}
	all := trees(Pack(c))
	if want := 8 + 2 + 30*4 + 40*3; all != want {
		t.Fatalf("%d trees come, not %d", all, want)
	}
	p := packer{left: all}
	if got := trees(p.command(c)); got != all || p.left != 0 {
		t.Errorf("%d trees come, %d are left", got, p.left)
	}
	p = packer{left: all - 20}
	if got := trees(p.command(c)); got >= all || got < all-20 {
		t.Errorf("%d trees come", got)
	}
}

func TestM2SignsThereAndBack(t *testing.T) {
	for _, n := range []int64{0, 1, 2, 63, 64, 1 << 40, 1<<63 - 1, -1, -2, -64, -65, -1 << 40, -1 << 63} {
		if got := signed(unsigned(n)); got != n {
			t.Errorf("%d: %d comes", n, got)
		}
	}
}
