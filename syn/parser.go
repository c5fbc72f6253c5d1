package syn

import (
	"strconv"

	"verdict/api"
)

// unread is what can't be read, as an error.
type unread struct {
	api.Fault
}

func (u unread) Error() string {
	return "error " + strconv.Itoa(int(u.Err)) + " at byte " + strconv.Itoa(u.At)
}

// parser goes over the tokens of a text. It counts what is open at once, so that no text makes it go too deep.
type parser struct {
	left []api.Token
	end  int // of the text
	open int
}

// next is the token that comes next; at the text's end it is of no kind.
func (p *parser) next() api.Token {
	if len(p.left) == 0 {
		return api.Token{At: p.end}
	}
	return p.left[0]
}

// pass goes behind the next token, which must be there.
func (p *parser) pass() {
	p.left = p.left[1:]
}

// sees tells whether a word or a sign comes next; a text that says the same is neither.
func (p *parser) sees(text string) bool {
	t := p.next()
	return (t.Kind == api.TWord || t.Kind == api.TSign) && t.Text == text
}

// take passes a word or a sign, if it comes next.
func (p *parser) take(text string) bool {
	seen := p.sees(text)
	if seen {
		p.pass()
	}
	return seen
}

// need takes a word or a sign without which it can't go on.
func (p *parser) need(text string) error {
	if !p.take(text) {
		return p.stuck(api.ErrForm)
	}
	return nil
}

// name takes a name, where one is asked for.
func (p *parser) name() (string, error) {
	t := p.next()
	if t.Kind != api.TWord {
		return "", p.stuck(api.ErrForm)
	}
	if !isName(t.Text) {
		return "", p.stuck(api.ErrName)
	}
	p.pass()
	return t.Text, nil
}

// stuck tells what is wrong where the next token begins.
func (p *parser) stuck(err api.Errno) error {
	return unread{api.Fault{Err: err, At: p.next().At}}
}

// within reads something while one more is open.
func (p *parser) within(read func() (api.Expr, error)) (api.Expr, error) {
	p.open++
	defer func() { p.open-- }()
	if p.open > api.MaxDeep {
		return api.Expr{}, p.stuck(api.ErrMuch)
	}
	return read()
}
