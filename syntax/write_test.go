package syntax_test

import (
	"math"
	"strings"
	"testing"

	"eggbox/api"
	"eggbox/syntax"
)

func TestP4_2Examples(t *testing.T) {
	a, b := letter('a'), letter('b')
	star, union, concat, not := node(api.Star), node(api.Union), node(api.Concat), node(api.Not)
	prints(t, 2, list(a, b, concat, star), "(ab)*")
	prints(t, 2, list(a, a, b, union, union), "a|(a|b)")
	prints(t, 2, list(a, not, star), "(!a)*")
	prints(t, 2, list(a, star, not), "!a*")
}

func TestP4_2Leaves(t *testing.T) {
	prints(t, 1, list(node(api.None)), "0")
	prints(t, 1, list(node(api.Empty)), "1")
	prints(t, 1, list(node(api.Any)), ".")
	for i := range 8 {
		sign := 'a' + byte(i)
		prints(t, 8, list(letter(sign)), string(sign))
		prints(t, i+1, list(letter(sign)), string(sign))
		if i > 0 {
			unprinted(t, i, list(letter(sign)), api.ErrLetter)
		}
	}
}

// ofKind is a small expression whose root is of that kind, and its text.
func ofKind(kind int) (plain, string) {
	a, b := leaf(letter('a')), leaf(letter('b'))
	switch kind {
	case api.Letter:
		return a, "a"
	case api.Union:
		return join(kind, a, b), "a|b"
	case api.Inter:
		return join(kind, a, b), "a&b"
	case api.Concat:
		return join(kind, a, b), "ab"
	case api.Star:
		return join(kind, a), "a*"
	case api.Not:
		return join(kind, a), "!a"
	}
	return leaf(node(kind)), map[int]string{api.None: "0", api.Empty: "1", api.Any: "."}[kind]
}

func TestP4_2EachKindInEachOther(t *testing.T) {
	// By the kind of the whole: the kinds that stand in brackets as its first part, and as its second one.
	first := map[int][]int{
		api.Union: {}, api.Inter: {api.Union}, api.Concat: {api.Union, api.Inter},
		api.Not: {api.Union, api.Inter, api.Concat}, api.Star: {api.Union, api.Inter, api.Concat, api.Not},
	}
	second := map[int][]int{
		api.Union: {api.Union}, api.Inter: {api.Union, api.Inter}, api.Concat: {api.Union, api.Inter, api.Concat},
	}
	within := func(text string, kind int, kinds []int) string {
		for _, x := range kinds {
			if x == kind {
				return "(" + text + ")"
			}
		}
		return text
	}
	c := leaf(letter('c'))
	for kind := api.None; kind <= api.Not; kind++ {
		part, text := ofKind(kind)
		for whole, mark := range map[int]string{api.Union: "|", api.Inter: "&", api.Concat: ""} {
			prints(t, 3, join(whole, part, c).list(), within(text, kind, first[whole])+mark+"c")
			prints(t, 3, join(whole, c, part).list(), "c"+mark+within(text, kind, second[whole]))
			for other := api.None; other <= api.Not; other++ {
				behind, more := ofKind(other)
				prints(t, 3, join(whole, part, behind).list(), within(text, kind, first[whole])+mark+within(more, other, second[whole]))
			}
		}
		prints(t, 3, join(api.Star, part).list(), within(text, kind, first[api.Star])+"*")
		prints(t, 3, join(api.Not, part).list(), "!"+within(text, kind, first[api.Not]))
	}
}

func TestP4_2Print(t *testing.T) {
	for _, p := range samples() {
		prints(t, 8, p.list(), p.text())
	}
}

func TestP4_2NothingThatIsNotNeeded(t *testing.T) {
	for text, should := range map[string]string{
		"a?": "a|1", "a?b": "(a|1)b", "a??": "a|1|1", "a-b": "a&!b", "a-bc": "a&!(bc)", "a-(b|c)": "a&!(b|c)", "a-b-c": "a&!b&!c",
		"(a)": "a", "((a|b))": "a|b", " a b ": "ab", "a|(b*)": "a|b*", "(ab)c": "abc", "a|(b&c)": "a|b&c", "(a&b)|c": "a&b|c", "(a|b)|c": "a|b|c",
		"(a*)*": "a**", "!(a*)": "!a*", "!(!a)": "!!a", "(!a)b": "!ab", "a(!b)": "a!b", "(a)(b)*": "ab*", "a&(bc)": "a&bc",
	} {
		l, _, e := syntax.Parse(3, text)
		if e != api.OK {
			t.Fatalf("%q: %d", text, e)
		}
		prints(t, 3, l, should)
	}
}

// notTrees are lists that are no trees.
func notTrees() [][]api.Node {
	a, b := letter('a'), letter('b')
	star, union, concat := node(api.Star), node(api.Union), node(api.Concat)
	return [][]api.Node{
		nil, {}, {a, b}, {star}, {node(api.Not)}, {union}, {node(api.Inter)}, {concat}, {a, union}, {a, concat, b}, {star, a}, {a, b, star}, {a, b, union, union},
		{a, b, b, union}, {union, a, b}, {node(0)}, {node(10)}, {node(-1)}, {node(math.MinInt)}, {node(math.MaxInt)}, {letter(0)}, {letter('i')}, {letter('A')}, {letter(255)},
		{{Kind: api.Any, Sign: 'a'}}, {{Kind: api.Empty, Sign: 1}}, {a, {Kind: api.Star, Sign: 'a'}}, {a, letter('`'), concat}, make([]api.Node, 4000),
	}
}

func TestP4_2Refusals(t *testing.T) {
	for _, l := range notTrees() {
		for k := 1; k <= 8; k++ {
			unprinted(t, k, l, api.ErrTree)
		}
	}
	unprinted(t, 1, make([]api.Node, 4001), api.ErrSize)
	unprinted(t, 1, make([]api.Node, 100000), api.ErrSize)
	for _, k := range []int{math.MinInt, -1, 0, 9, 10, 1<<32 + 1, math.MaxInt} {
		for _, l := range append(notTrees(), list(letter('a')), list(letter('h')), make([]api.Node, 4001)) {
			unprinted(t, k, l, api.ErrLetters)
		}
	}
	for _, way := range []string{"!", "*", "|", "&", "", "|(", "&(", "("} {
		for _, depth := range []int{127, 128} {
			_, p := chain(way, depth)
			prints(t, 1, p.list(), p.text())
		}
		_, p := chain(way, 129)
		l := p.list()
		unprinted(t, 1, l, api.ErrDepth)
		l[0] = letter('h')
		unprinted(t, 1, l, api.ErrDepth)
		_, p = chain(way, 128)
		l = p.list()
		l[0] = letter('h')
		unprinted(t, 7, l, api.ErrLetter)
	}
}

// row is that many letters one behind the other; rows a union of those.
func row(n int) plain {
	p := leaf(letter('a'))
	for range n - 1 {
		p = join(api.Concat, p, leaf(letter('a')))
	}
	return p
}

func rows(sizes ...int) plain {
	p := row(sizes[0])
	for _, n := range sizes[1:] {
		p = join(api.Union, p, row(n))
	}
	return p
}

func TestP4_2Long(t *testing.T) {
	a := leaf(letter('a'))
	for _, c := range []struct {
		what  string
		p     plain
		bytes int
	}{
		{"rows", rows(100, 100, 100, 100, 100, 100, 100, 100, 100, 91), 1000},
		{"rows, one less", rows(100, 100, 100, 100, 100, 100, 100, 100, 100, 90), 999},
		{"rows, one more", rows(100, 100, 100, 100, 100, 100, 100, 100, 100, 92), 1001},
		{"a bracket less than too long", join(api.Star, rows(100, 100, 100, 100, 100, 100, 100, 100, 100, 88)), 1000},
		{"brackets make it too long", join(api.Star, rows(100, 100, 100, 100, 100, 100, 100, 100, 100, 89)), 1001},
		{"a not", join(api.Not, join(api.Star, rows(100, 100, 100, 100, 100, 100, 100, 100, 100, 87))), 1000},
		{"a not makes it too long", join(api.Not, join(api.Star, rows(100, 100, 100, 100, 100, 100, 100, 100, 100, 88))), 1001},
		{"a second part", join(api.Inter, a, rows(100, 100, 100, 100, 100, 100, 100, 100, 100, 87)), 1000},
		{"a second part makes it too long", join(api.Inter, a, rows(100, 100, 100, 100, 100, 100, 100, 100, 100, 88)), 1001},
		{"a first part", join(api.Concat, rows(100, 100, 100, 100, 100, 100, 100, 100, 100, 88), a), 1000},
		{"a first part makes it too long", join(api.Concat, rows(100, 100, 100, 100, 100, 100, 100, 100, 100, 89), a), 1001},
		{"far too long", rows(100, 100, 100, 100, 100, 100, 100, 100, 100, 100, 100, 100, 100, 100, 100, 100, 100, 100, 100), 1918},
	} {
		text := c.p.text()
		if len(text) != c.bytes {
			t.Fatalf("%s: %d bytes, not %d", c.what, len(text), c.bytes)
		}
		if c.bytes <= 1000 {
			prints(t, 1, c.p.list(), text)
		} else {
			unprinted(t, 1, c.p.list(), api.ErrLong)
			// A letter too many comes ahead of that.
			l := c.p.list()
			l[0] = letter('b')
			unprinted(t, 1, l, api.ErrLetter)
		}
	}
}

func TestP4_2LongerThanWhatWasRead(t *testing.T) {
	// "?" is printed by three more bytes than it has: what was read may be too long to be printed.
	part := strings.Repeat("a?", 49)
	text := strings.Repeat(part+"|", 9) + part
	l, _, e := syntax.Parse(1, text)
	if e != api.OK {
		t.Fatalf("a text of %d bytes: %d", len(text), e)
	}
	unprinted(t, 1, l, api.ErrLong)
}

func TestP4_2MostNodes(t *testing.T) {
	// A tree of 3999 nodes that is not deep, and then of 4000 and 4001.
	p := make([]plain, 2000)
	for i := range p {
		p[i] = leaf(letter('a'))
	}
	for len(p) > 1 {
		var half []plain
		for i := 0; i+1 < len(p); i += 2 {
			half = append(half, join(api.Concat, p[i], p[i+1]))
		}
		if len(p)%2 == 1 {
			half = append(half, p[len(p)-1])
		}
		p = half
	}
	l := p[0].list()
	unprinted(t, 1, l, api.ErrLong)
	unprinted(t, 1, append(l[:3999:3999], node(api.Star)), api.ErrLong)
	unprinted(t, 1, append(l[:3999:3999], node(api.Star), node(api.Star)), api.ErrSize)
}
