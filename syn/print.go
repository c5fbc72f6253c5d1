package syn

import (
	"strings"

	"verdict/api"
	"verdict/lex"
)

// Print writes x so that Read reads it.
func Print(x api.Expr) (string, api.Errno) {
	if err := Wrong(x); err != api.OK {
		return "", err
	}
	p := printer{signs: signsByKind()}
	p.print(x, levelWords)
	if p.Len() > api.MaxSource {
		return "", api.ErrMuch
	}
	return p.String(), api.OK
}

// printer writes expressions with which nothing is wrong.
type printer struct {
	strings.Builder
	signs map[int]sign
}

// print writes x, in brackets if it is weaker than least.
func (p *printer) print(x api.Expr, least int) {
	if p.level(x.Kind) >= least {
		p.bare(x)
		return
	}
	p.WriteString("(")
	p.bare(x)
	p.WriteString(")")
}

func (p *printer) level(kind int) int {
	switch kind {
	case api.XIf, api.XFor, api.XSome, api.XEvery:
		return levelWords
	case api.XNeg:
		return levelMinus
	case api.XLit, api.XName, api.XCall, api.XList:
		return levelPiece
	}
	return p.signs[kind].level
}

// bare writes x without brackets around it.
func (p *printer) bare(x api.Expr) {
	switch x.Kind {
	case api.XLit:
		p.WriteString(lex.Written(x.Val))
	case api.XName:
		p.WriteString(x.Name)
	case api.XNeg:
		p.WriteString("-")
		p.print(x.Kids[0], levelMinus)
	case api.XIf:
		p.behind(x.Kids, "if ", " then ", " else ")
	case api.XCall:
		p.WriteString(x.Name)
		p.listed("(", x.Kids, ")")
	case api.XList:
		p.listed("[", x.Kids, "]")
	case api.XFor:
		p.behind(x.Kids, "for "+x.Name+" in ", " return ")
	case api.XSome:
		p.behind(x.Kids, "some "+x.Name+" in ", " satisfies ")
	case api.XEvery:
		p.behind(x.Kids, "every "+x.Name+" in ", " satisfies ")
	default:
		p.joined(p.signs[x.Kind], x.Kids[0], x.Kids[1])
	}
}

// behind writes each kid behind its words.
func (p *printer) behind(kids []api.Expr, words ...string) {
	for i, kid := range kids {
		p.WriteString(words[i])
		p.print(kid, levelWords)
	}
}

func (p *printer) listed(opening string, kids []api.Expr, closing string) {
	p.WriteString(opening)
	for i, kid := range kids {
		if i > 0 {
			p.WriteString(", ")
		}
		p.print(kid, levelWords)
	}
	p.WriteString(closing)
}

func (p *printer) joined(s sign, left, right api.Expr) {
	least := s.level
	if s.level == levelCompare {
		// These stand once: what is such a one is in brackets on the left, too.
		least++
	}
	p.print(left, least)
	p.WriteString(" " + s.text + " ")
	p.print(right, s.level+1)
}
