package syntax_test

import (
	"strings"

	"eggbox/api"
)

// rule is a rule of the grammar, with a star or a plus there written as a rule that names itself. The tests hold Parse against these rules alone: what they derive, and with what a text that they derive may begin.
type rule struct {
	body []string
	tree func(p []plain) plain
}

// grammar: the rules of each name; a sign of its own is a name without rules.
type grammar map[string][]rule

func grammarOf(k int) grammar {
	same := func(p []plain) plain { return p[0] }
	fork := func(kind, second int) func(p []plain) plain {
		return func(p []plain) plain { return join(kind, p[0], p[second]) }
	}
	g := grammar{
		"union": {{[]string{"inter"}, same}, {[]string{"union", "|", "inter"}, fork(api.Union, 2)}},
		"inter": {{[]string{"concat"}, same}, {[]string{"inter", "&", "concat"}, fork(api.Inter, 2)},
			{[]string{"inter", "-", "concat"}, func(p []plain) plain { return join(api.Inter, p[0], join(api.Not, p[2])) }}},
		"concat": {{[]string{"prefix"}, same}, {[]string{"concat", "prefix"}, fork(api.Concat, 1)}},
		"prefix": {{[]string{"post"}, same}, {[]string{"!", "prefix"}, func(p []plain) plain { return join(api.Not, p[1]) }}},
		"post": {{[]string{"atom"}, same}, {[]string{"post", "*"}, func(p []plain) plain { return join(api.Star, p[0]) }},
			{[]string{"post", "?"}, func(p []plain) plain { return join(api.Union, p[0], leaf(node(api.Empty))) }}},
		"atom": {{[]string{"(", "union", ")"}, func(p []plain) plain { return p[1] }}},
	}
	atom := func(sign string, n api.Node) {
		g["atom"] = append(g["atom"], rule{[]string{sign}, func([]plain) plain { return leaf(n) }})
	}
	atom("0", node(api.None))
	atom("1", node(api.Empty))
	atom(".", node(api.Any))
	for i := range k {
		sign := 'a' + byte(i)
		atom(string([]byte{sign}), letter(sign))
	}
	return g
}

// span: a name and a stretch of the text that it may derive.
type span struct {
	name     string
	from, to int
}

type derived struct {
	tree plain
	ok   bool
}

// chart is what is known of one text, without blanks.
type chart struct {
	rules grammar
	text  string
	known map[span]derived
}

func newChart(rules grammar, text string) *chart {
	return &chart{rules, text, map[span]derived{}}
}

func (c *chart) derive(s span) (plain, bool) {
	if c.rules[s.name] == nil {
		return plain{}, c.text[s.from:s.to] == s.name
	}
	if d, known := c.known[s]; known {
		return d.tree, d.ok
	}
	var d derived
	for _, r := range c.rules[s.name] {
		if parts, ok := c.deriveAll(r.body, s.from, s.to); ok {
			d = derived{r.tree(parts), true}
		}
	}
	c.known[s] = d
	return d.tree, d.ok
}

// deriveAll: several names, one behind the other. Each of them derives at least one sign, so that a rule that names itself ends.
func (c *chart) deriveAll(body []string, from, to int) ([]plain, bool) {
	if len(body) == 1 {
		p, ok := c.derive(span{body[0], from, to})
		return []plain{p}, ok
	}
	for cut := from + 1; cut <= to-(len(body)-1); cut++ {
		p, ok := c.derive(span{body[0], from, cut})
		if !ok {
			continue
		}
		if rest, ok := c.deriveAll(body[1:], cut, to); ok {
			return append([]plain{p}, rest...), true
		}
	}
	return nil, false
}

// begins: does something that the name derives begin with the text from there on?
func (c *chart) begins(name string, from int) bool {
	if from == len(c.text) {
		return true
	}
	if c.rules[name] == nil {
		return from == len(c.text)-1 && c.text[from:] == name
	}
	for _, r := range c.rules[name] {
		// What the names so far derive from there on ends at these places.
		ends := []int{from}
		for i, part := range r.body {
			var more []int
			for _, end := range ends {
				// A rule that names itself first says nothing new of its first name.
				if (i > 0 || part != name) && c.begins(part, end) {
					return true
				}
				for to := end + 1; to <= len(c.text); to++ {
					if _, ok := c.derive(span{part, end, to}); ok {
						more = append(more, to)
					}
				}
			}
			ends = more
		}
	}
	return false
}

// viable: does a text that the grammar derives begin so?
func (g grammar) viable(begin string) bool {
	return newChart(g, strings.ReplaceAll(begin, " ", "")).begins("union", 0)
}

// read is what Parse answers, by the definition alone, of a text that is neither too long nor too deep.
func (g grammar) read(text string) (tree plain, place int, e api.Errno) {
	signs := strings.ReplaceAll(text, " ", "")
	if signs != "" {
		if p, ok := newChart(g, signs).derive(span{"union", 0, len(signs)}); ok {
			return p, 0, api.OK
		}
	}
	for place := range len(text) {
		if !g.viable(text[:place+1]) {
			return plain{}, place, api.ErrSyntax
		}
	}
	return plain{}, len(text), api.ErrSyntax
}
