package order

import (
	"eggbox/api"
	"eggbox/bits"
	"eggbox/monoid"
)

const firstLetter = 'a'

// contexts are those of a monoid, as far as they tell elements apart: of all that leads from 0 to one state only the least element can stand ahead in a least context.
type contexts struct {
	m      *monoid.Monoid
	above  []api.Set // for each state, as States answers them
	states []int     // for each element, where it leads from 0
	firsts []int     // for each state that is met, the least element that leads there; rising
}

func contextsOf(m *monoid.Monoid) *contexts {
	a := m.Auto()
	out := &contexts{m: m, above: aboveIn(a), states: make([]int, m.Len())}
	var met api.Set
	for x := range out.states {
		// A least word without its last letter is a least word ahead of it, so this was found before.
		s := out.states[x]
		if !bits.Has(met, s) {
			met, _ = bits.With(met, s)
			out.firsts = append(out.firsts, x)
		}
		for l := range a.Letters {
			y, _ := m.Right(x, firstLetter+byte(l))
			out.states[y] = a.Next[s*a.Letters+l]
		}
	}
	return out
}

func (c *contexts) product(i, j int) int {
	out, _ := c.m.Product(i, j)
	return out
}

func (c *contexts) accepts(i int) bool {
	out, _ := c.m.Accept(i)
	return out
}

func (c *contexts) word(i int) string {
	out, _ := c.m.Word(i)
	return out
}

// escapes: is a word accepted from s and not from t? unlike: is one accepted from just one of them?
func (c *contexts) escapes(s, t int) bool { return !bits.Has(c.above[s], t) }

func (c *contexts) unlike(s, t int) bool { return c.above[s] != c.above[t] }

// ahead is the least element behind which i and j lead to states that are apart, and whether there is one.
func (c *contexts) ahead(i, j int, apart func(s, t int) bool) (int, bool) {
	for _, p := range c.firsts {
		if apart(c.states[c.product(p, i)], c.states[c.product(p, j)]) {
			return p, true
		}
	}
	return 0, false
}

func (c *contexts) leq(i, j int) bool {
	_, found := c.ahead(i, j, c.escapes)
	return !found
}

// least are the words of the least context that tells i and j apart, and whether there is one: apart asks of two states whether some word does that behind them, tells of what one word does.
func (c *contexts) least(i, j int, apart func(s, t int) bool, tells func(one, other bool) bool) (u, v string, found bool) {
	p, found := c.ahead(i, j, apart)
	if !found {
		return "", "", false
	}
	x, y := c.product(p, i), c.product(p, j)
	for q := range c.states {
		if tells(c.accepts(c.product(x, q)), c.accepts(c.product(y, q))) {
			return c.word(p), c.word(q), true
		}
	}
	return "", "", false
}

// trace is to which states an element leads from those that are met, told by the least states of the same languages: elements are the same if their traces are.
type trace [api.MaxStates]uint8

func (c *contexts) trace(i int, like []int) trace {
	var out trace
	for at, p := range c.firsts {
		out[at] = uint8(like[c.states[c.product(p, i)]])
	}
	return out
}
