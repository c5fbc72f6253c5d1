package code

import "verdict/api"

// maker lays instructions one behind the other.
type maker struct {
	laid []api.Instr
}

// instructions are those of x, with which nothing is wrong.
func instructions(x api.Expr) []api.Instr {
	m := maker{}
	m.node(x)
	return m.laid
}

// lay puts one behind all others, and tells where it stands.
func (m *maker) lay(one api.Instr) int {
	m.laid = append(m.laid, one)
	return len(m.laid) - 1
}

// toHere lets the one at that place lead to what comes next.
func (m *maker) toHere(at int) {
	m.laid[at].To = len(m.laid)
}

func (m *maker) node(x api.Expr) {
	m.lay(api.Instr{Op: api.OpCount})
	switch x.Kind {
	case api.XLit:
		m.lay(api.Instr{Op: api.OpPush, Val: x.Val})
	case api.XName:
		m.lay(api.Instr{Op: api.OpLoad, Name: x.Name})
	case api.XIf:
		m.choice(x)
	case api.XFor, api.XSome, api.XEvery:
		m.overList(x)
	default:
		m.ofKids(x)
	}
}

func (m *maker) choice(x api.Expr) {
	m.node(x.Kids[0])
	choose := m.lay(api.Instr{Op: api.OpElse})
	m.node(x.Kids[1])
	leave := m.lay(api.Instr{Op: api.OpJump})
	m.toHere(choose)
	m.node(x.Kids[2])
	m.toHere(leave)
}

func (m *maker) overList(x api.Expr) {
	m.node(x.Kids[0])
	each := m.lay(api.Instr{Op: api.OpEach, Kind: x.Kind, Name: x.Name})
	m.node(x.Kids[1])
	m.lay(api.Instr{Op: api.OpNext, Kind: x.Kind, To: each + 1})
	m.toHere(each)
}

func (m *maker) ofKids(x api.Expr) {
	for _, kid := range x.Kids {
		m.node(kid)
	}
	made := api.Instr{Op: api.OpNode, Kind: x.Kind, N: len(x.Kids)}
	// The name of another kind means nothing, whatever it is.
	if x.Kind == api.XCall {
		made.Name = x.Name
	}
	m.lay(made)
}
