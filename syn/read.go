package syn

import (
	"errors"

	"verdict/api"
	"verdict/lex"
	"verdict/logic"
)

// Read reads the expression that text is, or tells what is wrong with it, and where.
func Read(text string) (api.Expr, api.Fault) {
	walk, fault := lex.Over(text)
	if fault.Err != api.OK {
		return api.Expr{}, fault
	}
	r := reader{parser: parser{Walk: walk}, signs: signsByText()}
	x, err := r.whole()
	var what lex.Unread
	if errors.As(err, &what) {
		return api.Expr{}, what.Fault
	}
	// All that is read is right, but there may be too much of it.
	if Wrong(x) != api.OK {
		return api.Expr{}, api.Fault{Err: api.ErrMuch}
	}
	return x, api.Fault{}
}

// reader makes expressions of what its parser passes.
type reader struct {
	parser
	signs map[string]sign
}

func (r *reader) whole() (api.Expr, error) {
	x, err := r.expression()
	if err != nil {
		return api.Expr{}, err
	}
	return x, r.End()
}

func (r *reader) expression() (api.Expr, error) {
	return r.within(func() (api.Expr, error) {
		switch {
		case r.Sees("if"):
			kids, err := r.behind("if", "then", "else")
			return api.Expr{Kind: api.XIf, Kids: kids}, err
		case r.Take("for"):
			return r.loop(api.XFor, "return")
		case r.Take("some"):
			return r.loop(api.XSome, "satisfies")
		case r.Take("every"):
			return r.loop(api.XEvery, "satisfies")
		}
		return r.joined(levelOr)
	})
}

// loop stands behind its first word; another one stands ahead of its second kid.
func (r *reader) loop(kind int, word string) (api.Expr, error) {
	name, err := r.name()
	if err != nil {
		return api.Expr{}, err
	}
	kids, err := r.behind("in", word)
	return api.Expr{Kind: kind, Name: name, Kids: kids}, err
}

// behind reads an expression behind each of the words.
func (r *reader) behind(words ...string) ([]api.Expr, error) {
	var kids []api.Expr
	for _, word := range words {
		if err := r.Need(word); err != nil {
			return nil, err
		}
		kid, err := r.expression()
		if err != nil {
			return nil, err
		}
		kids = append(kids, kid)
	}
	return kids, nil
}

// joined reads what signs of that level join, from the left.
func (r *reader) joined(level int) (api.Expr, error) {
	if level == levelMinus {
		return r.signed()
	}
	x, err := r.joined(level + 1)
	for err == nil {
		s, ok := r.joint(level)
		if !ok {
			break
		}
		r.Pass()
		var right api.Expr
		right, err = r.joined(level + 1)
		x = api.Expr{Kind: s.kind, Kids: []api.Expr{x, right}}
		if level == levelCompare {
			// Of these only one may stand: whether `a < b < c` means both would be a guess.
			break
		}
	}
	return x, err
}

// joint is the sign that comes next, if it is one of that level.
func (r *reader) joint(level int) (sign, bool) {
	t := r.Next()
	s, ok := r.signs[t.Text]
	return s, ok && t.Kind != api.TText && s.level == level
}

func (r *reader) signed() (api.Expr, error) {
	if !r.Take("-") {
		return r.piece()
	}
	kid, err := r.within(r.signed)
	return api.Expr{Kind: api.XNeg, Kids: []api.Expr{kid}}, err
}

func (r *reader) piece() (api.Expr, error) {
	if v, ok := lex.Meant(r.Next()); ok {
		return r.literal(v)
	}
	if r.Take("(") {
		x, err := r.expression()
		if err != nil {
			return api.Expr{}, err
		}
		return x, r.Need(")")
	}
	if r.Take("[") {
		kids, err := r.listed("]", api.MaxList)
		return api.Expr{Kind: api.XList, Kids: kids}, err
	}
	name, err := r.name()
	if err != nil || !r.Take("(") {
		return api.Expr{Kind: api.XName, Name: name}, err
	}
	kids, err := r.listed(")", api.MaxArgs)
	return api.Expr{Kind: api.XCall, Name: name, Kids: kids}, err
}

// literal passes the token that says v.
func (r *reader) literal(v api.Value) (api.Expr, error) {
	if err := logic.Wrong(v); err != api.OK {
		return api.Expr{}, r.Stuck(err)
	}
	r.Pass()
	return api.Expr{Kind: api.XLit, Val: v}, nil
}

// listed stands behind the bracket that opens, and reads up to the one that closes.
func (r *reader) listed(closing string, most int) ([]api.Expr, error) {
	var kids []api.Expr
	for !r.Take(closing) {
		if len(kids) > 0 {
			if err := r.Need(","); err != nil {
				return nil, err
			}
		}
		if len(kids) == most {
			return nil, r.Stuck(api.ErrMany)
		}
		kid, err := r.expression()
		if err != nil {
			return nil, err
		}
		kids = append(kids, kid)
	}
	return kids, nil
}
