package terms

import (
	"strings"

	"eggbox/api"
)

// reader reads a text. It gives up by a panic, and stays at the first byte that can't stand where it does.
type reader struct {
	text  string
	at    int
	signs []api.Sign // of the side that is read
}

func (r *reader) identity() api.Identity {
	var out api.Identity
	out.Left = r.side()
	// Blanks are passed behind each power, and so not within "<=".
	if r.sees("<") {
		r.at++
		out.Less = true
	}
	r.take('=')
	out.Right = r.side()
	if r.at < len(r.text) {
		r.giveUp()
	}
	return out
}

func (r *reader) side() []api.Sign {
	r.signs = nil
	r.powers()
	return r.signs
}

// powers reads a side, and the blanks behind it.
func (r *reader) powers() {
	r.power()
	for r.sees(variables + "1(") {
		r.power()
		r.put(api.Mul, 0)
	}
}

func (r *reader) power() {
	r.atom()
	for r.blanks(); r.sees("^"); r.blanks() {
		r.at++
		r.take('w')
		r.put(api.Omega, 0)
	}
}

func (r *reader) atom() {
	r.blanks()
	switch {
	case r.sees(variables):
		r.put(api.Var, r.text[r.at])
		r.at++
	case r.sees("("):
		r.at++
		r.powers()
		r.take(')')
	default:
		r.take('1')
		r.put(api.One, 0)
	}
}

func (r *reader) blanks() {
	for r.sees(" ") {
		r.at++
	}
}

// sees: is the next byte one of these?
func (r *reader) sees(signs string) bool {
	return r.at < len(r.text) && strings.IndexByte(signs, r.text[r.at]) >= 0
}

// take reads the one byte that may stand here.
func (r *reader) take(sign byte) {
	if r.at == len(r.text) || r.text[r.at] != sign {
		r.giveUp()
	}
	r.at++
}

func (r *reader) giveUp() { panic(api.ErrSyntax) }

func (r *reader) put(kind int, name byte) {
	r.signs = append(r.signs, api.Sign{Kind: kind, Name: name})
}

// piece is the text of a part, and of which kind its sign is.
type piece struct {
	text string
	kind int
}

// bracketed is a part's text, in brackets if it is a Mul.
func (p piece) bracketed() string {
	if p.kind == api.Mul {
		return "(" + p.text + ")"
	}
	return p.text
}

// written is a side's text.
func written(side []api.Sign) string {
	return meaning[piece]{
		one:      func() piece { return piece{"1", api.One} },
		variable: func(name byte) piece { return piece{string([]byte{name}), api.Var} },
		mul:      func(first, second piece) piece { return piece{first.text + second.bracketed(), api.Mul} },
		omega:    func(part piece) piece { return piece{part.bracketed() + "^w", api.Omega} },
	}.of(side).text
}

// turned is a side in which the parts of each Mul are changed about.
func turned(side []api.Sign) []api.Sign {
	leaf := func(kind int, name byte) []api.Sign { return []api.Sign{{Kind: kind, Name: name}} }
	return meaning[[]api.Sign]{
		one:      func() []api.Sign { return leaf(api.One, 0) },
		variable: func(name byte) []api.Sign { return leaf(api.Var, name) },
		mul: func(first, second []api.Sign) []api.Sign {
			return append(append(second, first...), api.Sign{Kind: api.Mul})
		},
		omega: func(part []api.Sign) []api.Sign { return append(part, api.Sign{Kind: api.Omega}) },
	}.of(side)
}
