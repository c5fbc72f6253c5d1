package syn

import (
	"verdict/api"
	"verdict/lex"
)

// parser walks over the tokens of a text. It counts what is open at once, so that no text makes it go too deep.
type parser struct {
	lex.Walk
	open int
}

// name takes a name, where one is asked for.
func (p *parser) name() (string, error) {
	t := p.Next()
	if t.Kind != api.TWord {
		return "", p.Stuck(api.ErrForm)
	}
	if !isName(t.Text) {
		return "", p.Stuck(api.ErrName)
	}
	p.Pass()
	return t.Text, nil
}

// within reads something while one more is open.
func (p *parser) within(read func() (api.Expr, error)) (api.Expr, error) {
	p.open++
	defer func() { p.open-- }()
	if p.open > api.MaxDeep {
		return api.Expr{}, p.Stuck(api.ErrMuch)
	}
	return read()
}
