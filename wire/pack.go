package wire

import "verdict/api"

// What is beyond these bounds is more than is promised: a command whose lists hold themselves must have an end too.
const (
	mostTrees = (1<<31 - 1) / 56 // a tree takes 56 bytes
	mostOpen  = 1 << 16
)

// packer makes trees, and keeps within its bounds: where there is no room left, lists are cut off.
type packer struct {
	left int // how many trees it may still make
	open int // how many lists it is in
}

func (p *packer) command(c api.Cmd) api.Tree {
	return p.tree(c.Kind, c.Name, p.number(c.Session), p.number(c.Seq), p.number(c.To), p.table(c.Table))
}

func (p *packer) table(t api.Table) api.Tree {
	return p.tree(t.Policy, t.Name, list(p, t.Ins, p.column), list(p, t.Outs, p.column), list(p, t.Rules, p.rule))
}

func (p *packer) column(c api.Column) api.Tree {
	return p.tree(c.Kind, c.Name, list(p, c.Order, p.value))
}

func (p *packer) rule(r api.Rule) api.Tree {
	return p.tree(0, "", list(p, r.Tests, p.test), list(p, r.Outs, p.expr))
}

func (p *packer) test(t api.Test) api.Tree {
	return p.tree(t.Kind, "", p.value(t.A), p.value(t.B), p.truth(t.OpenA), p.truth(t.OpenB), list(p, t.Kids, p.test))
}

func (p *packer) expr(x api.Expr) api.Tree {
	return p.tree(x.Kind, x.Name, p.value(x.Val), list(p, x.Kids, p.expr))
}

func (p *packer) value(v api.Value) api.Tree {
	t := p.tree(0, v.Text, p.number(v.Num.Exp), p.truth(v.Yes), p.number(v.Kind))
	t.Tag, t.N = tagOf(int64(v.Kind)), v.Num.Coef
	t.Kids = behind(p, t.Kids, v.List, p.value)
	return t
}

func (p *packer) truth(yes bool) api.Tree {
	if yes {
		return p.number(1)
	}
	return p.number(0)
}

func (p *packer) number(n int) api.Tree {
	return p.tree(n, "")
}

func (p *packer) tree(n int, text string, kids ...api.Tree) api.Tree {
	p.left--
	return api.Tree{N: int64(n), Text: text, Kids: kids}
}

// list is a tree with a kid for each one of l.
func list[E any](p *packer, l []E, one func(E) api.Tree) api.Tree {
	t := p.tree(0, "")
	t.Kids = behind(p, nil, l, one)
	return t
}

// behind is kids with one more behind them for each one of l.
func behind[E any](p *packer, kids []api.Tree, l []E, one func(E) api.Tree) []api.Tree {
	if p.open == mostOpen {
		return kids
	}
	p.open++
	for _, e := range l {
		if p.left <= 0 {
			break
		}
		kids = append(kids, one(e))
	}
	p.open--
	return kids
}

// tagOf is the tag of a value of that kind: the kind modulo 256, which is never below 0.
func tagOf(kind int64) int {
	return int(uint8(kind))
}
