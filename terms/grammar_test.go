package terms_test

import "eggbox/api"

// rule is a rule of the document's forms, with "several" written as a rule that names itself, and a gap wherever blanks may stand. The tests hold Parse against these rules alone: what they derive, and with what a text that they derive may begin.
type rule struct {
	body []string
	tree func(p []plain) plain
}

// grammar: the rules of each name; a sign of its own is a name without rules, a gap is any number of blanks.
type grammar map[string][]rule

const gap = "gap"

// An identity is a tree whose root is a sign of none of the kinds, with the two sides as its parts.
const (
	equality = -1
	less     = -2
)

func grammarOf() grammar {
	same := func(p []plain) plain { return p[0] }
	whole := func(kind, second int) func(p []plain) plain {
		return func(p []plain) plain { return plain{api.Sign{Kind: kind}, []plain{p[1], p[second]}} }
	}
	g := grammar{
		"identity": {{[]string{gap, "side", gap, "=", gap, "side", gap}, whole(equality, 5)},
			{[]string{gap, "side", gap, "<", "=", gap, "side", gap}, whole(less, 6)}},
		"side":  {{[]string{"power"}, same}, {[]string{"side", gap, "power"}, func(p []plain) plain { return mul(p[0], p[2]) }}},
		"power": {{[]string{"atom"}, same}, {[]string{"power", gap, "^", "w"}, func(p []plain) plain { return omega(p[0]) }}},
		"atom": {{[]string{"(", gap, "side", gap, ")"}, func(p []plain) plain { return p[2] }},
			{[]string{"1"}, func([]plain) plain { return one() }}},
	}
	for _, name := range []byte("xyzt") {
		g["atom"] = append(g["atom"], rule{[]string{string([]byte{name})}, func([]plain) plain { return variable(name) }})
	}
	return g
}

// span: a name and a stretch of the text that it may derive.
type span struct {
	name     string
	from, to int
}

type derived struct {
	tree plain
	ok   bool
}

// chart is what is known of one text: what names derive, and what they begin with, by name and place.
type chart struct {
	rules grammar
	text  string
	known map[span]derived
	begun map[span]bool
}

func newChart(rules grammar, text string) *chart {
	return &chart{rules, text, map[span]derived{}, map[span]bool{}}
}

// blank: are there blanks alone from one place to the other?
func (c *chart) blank(from, to int) bool {
	for ; from < to; from++ {
		if c.text[from] != ' ' {
			return false
		}
	}
	return true
}

func (c *chart) derive(s span) (plain, bool) {
	switch {
	case s.name == gap:
		return plain{}, c.blank(s.from, s.to)
	case c.rules[s.name] == nil:
		return plain{}, c.text[s.from:s.to] == s.name
	}
	if d, known := c.known[s]; known {
		return d.tree, d.ok
	}
	var d derived
	for _, r := range c.rules[s.name] {
		if parts, ok := c.deriveAll(r.body, s.from, s.to); ok {
			d = derived{r.tree(parts), true}
		}
	}
	c.known[s] = d
	return d.tree, d.ok
}

// least is how many bytes names derive at least.
func least(names []string) int {
	n := 0
	for _, name := range names {
		if name != gap {
			n++
		}
	}
	return n
}

// deriveAll: several names, one behind the other.
func (c *chart) deriveAll(body []string, from, to int) ([]plain, bool) {
	if len(body) == 1 {
		p, ok := c.derive(span{body[0], from, to})
		return []plain{p}, ok
	}
	for cut := from + least(body[:1]); cut <= to-least(body[1:]); cut++ {
		p, ok := c.derive(span{body[0], from, cut})
		if !ok {
			continue
		}
		if rest, ok := c.deriveAll(body[1:], cut, to); ok {
			return append([]plain{p}, rest...), true
		}
	}
	return nil, false
}

// begins: does something that the name derives begin with the text from there on?
func (c *chart) begins(name string, from int) bool {
	switch {
	case from == len(c.text):
		return true
	case name == gap:
		return c.blank(from, len(c.text))
	case c.rules[name] == nil:
		return from == len(c.text)-1 && c.text[from:] == name
	}
	here := span{name: name, from: from}
	is, known := c.begun[here]
	if !known {
		is = c.beginsByRule(name, from)
		c.begun[here] = is
	}
	return is
}

func (c *chart) beginsByRule(name string, from int) bool {
	for _, r := range c.rules[name] {
		// What the names so far derive from there on ends at these places.
		ends := []int{from}
		for i, part := range r.body {
			var more []int
			for _, end := range ends {
				// A rule that names itself first says nothing new of its first name.
				if (i > 0 || part != name) && c.begins(part, end) {
					return true
				}
				for to := end + least(r.body[i:i+1]); to <= len(c.text); to++ {
					if _, ok := c.derive(span{part, end, to}); ok {
						more = append(more, to)
					}
				}
			}
			ends = more
		}
	}
	return false
}

// viable: does a text that the grammar derives begin so?
func (g grammar) viable(begin string) bool { return newChart(g, begin).begins("identity", 0) }

// derive is the identity that a text is, if it is one.
func (g grammar) derive(text string) (api.Identity, bool) {
	p, ok := newChart(g, text).derive(span{"identity", 0, len(text)})
	if !ok {
		return api.Identity{}, false
	}
	return both{p.parts[0], p.parts[1], p.sign.Kind == less}.id(), true
}

// read is what Parse answers, by the definition alone, of a text that is neither too long nor of too many signs.
func (g grammar) read(text string) (id api.Identity, place int, e api.Errno) {
	if id, ok := g.derive(text); ok {
		return id, 0, api.OK
	}
	for place := range len(text) {
		if !g.viable(text[:place+1]) {
			return api.Identity{}, place, api.ErrSyntax
		}
	}
	return api.Identity{}, len(text), api.ErrSyntax
}
