package syntax_test

import (
	"math"
	"strings"
	"testing"

	"eggbox/api"
	"eggbox/syntax"
)

func TestP4_1Examples(t *testing.T) {
	a, b := letter('a'), letter('b')
	star, union, concat, not, inter, empty := node(api.Star), node(api.Union), node(api.Concat), node(api.Not), node(api.Inter), node(api.Empty)
	reads(t, 2, "a|b*", list(a, b, star, union))
	reads(t, 2, "ab|1", list(a, b, concat, empty, union))
	reads(t, 2, "!ab", list(a, not, b, concat))
	reads(t, 2, "a-b", list(a, b, not, inter))
	reads(t, 2, "a?", list(a, empty, union))
	refuses(t, 2, "a|", 2, api.ErrSyntax)
	refuses(t, 2, "a)b", 1, api.ErrSyntax)
	refuses(t, 2, "c", 0, api.ErrSyntax)
	refuses(t, 2, "", 0, api.ErrSyntax)
	refuses(t, 2, "( a", 3, api.ErrSyntax)
	refuses(t, 9, "a", 0, api.ErrLetters)
	refuses(t, 2, strings.Repeat("a", 129), 0, api.ErrDepth)
}

func TestP4_1Trees(t *testing.T) {
	a, b, c, d := letter('a'), letter('b'), letter('c'), letter('d')
	none, empty, anyLetter := node(api.None), node(api.Empty), node(api.Any)
	star, union, concat, not, inter := node(api.Star), node(api.Union), node(api.Concat), node(api.Not), node(api.Inter)
	for text, should := range map[string][]api.Node{
		"a": {a}, "0": {none}, "1": {empty}, ".": {anyLetter}, "((a))": {a},
		"a|b|c":     {a, b, union, c, union},
		"a|(b|c)":   {a, b, c, union, union},
		"abc":       {a, b, concat, c, concat},
		"a(bc)":     {a, b, c, concat, concat},
		"a&b&c":     {a, b, inter, c, inter},
		"a-b-c":     {a, b, not, inter, c, not, inter},
		"a-b&c-d":   {a, b, not, inter, c, inter, d, not, inter},
		"a-(b-c)":   {a, b, c, not, inter, not, inter},
		"a-!b":      {a, b, not, not, inter},
		"a-bc":      {a, b, c, concat, not, inter},
		"a-b|c":     {a, b, not, inter, c, union},
		"a|b-c":     {a, b, c, not, inter, union},
		"(a-b)c":    {a, b, not, inter, c, concat},
		"(a-b)*":    {a, b, not, inter, star},
		"!a-b":      {a, not, b, not, inter},
		"a|b&cd*":   {a, b, c, d, star, concat, inter, union},
		"!a*":       {a, star, not},
		"(!a)*":     {a, not, star},
		"!!a":       {a, not, not},
		"!!ab":      {a, not, not, b, concat},
		"a!b!c":     {a, b, not, concat, c, not, concat},
		"!(ab)":     {a, b, concat, not},
		"a**":       {a, star, star},
		"a*?*":      {a, star, empty, union, star},
		"a??":       {a, empty, union, empty, union},
		"!a?":       {a, empty, union, not},
		"ab?":       {a, b, empty, union, concat},
		"(ab)?c":    {a, b, concat, empty, union, c, concat},
		"0*|1.":     {none, star, empty, anyLetter, concat, union},
		"(a|b)&(c)": {a, b, union, c, inter},
	} {
		reads(t, 4, text, should)
	}
}

// everySign: the grammar's signs, with two letters; a blank, a letter too many, and a byte that is no sign.
const everySign = "ab01.!()|&-*? c+"

// holdAgainstGrammar holds Parse against the rules of the grammar at one text.
func holdAgainstGrammar(t *testing.T, g grammar, k int, text string) {
	t.Helper()
	p, place, e := g.read(text)
	if e == api.OK {
		reads(t, k, text, p.list())
	} else {
		refuses(t, k, text, place, e)
	}
}

func TestP4_1EveryShortText(t *testing.T) {
	for _, c := range []struct {
		signs string
		most  int
	}{{everySign, 4}, {"a!()|-*", 6}, {"a ()", 7}} {
		g := grammarOf(2)
		var longer func(text string)
		longer = func(text string) {
			holdAgainstGrammar(t, g, 2, text)
			if t.Failed() || len(text) == c.most {
				return
			}
			for i := range len(c.signs) {
				more := text + c.signs[i:i+1]
				if g.viable(more) {
					longer(more)
					continue
				}
				// What stands behind the place is of no matter.
				for _, rest := range []string{"", "a", "c", ")", " ", "\xff", "|a"} {
					refuses(t, 2, more+rest, len(text), api.ErrSyntax)
				}
			}
		}
		longer("")
	}
}

// thrownText is what the grammar derives from a name, with "?", "-", blanks and brackets that are not needed.
func (d *dice) thrownText(g grammar, name string, size int) string {
	blank := []string{"", "", "", " ", "  "}[d.below(5)]
	rules := g[name]
	if rules == nil {
		return name + blank
	}
	r := rules[0]
	if name == "atom" {
		r = rules[1+d.below(len(rules)-1)]
	}
	if size > 1 && (name == "atom" || d.below(2) == 0) {
		r = rules[d.below(len(rules))]
	}
	out := ""
	for _, part := range r.body {
		out += d.thrownText(g, part, size/len(r.body))
	}
	return out
}

func TestP4_1ThrownTexts(t *testing.T) {
	d := dice(2463534242)
	g := grammarOf(3)
	right, wrong := 0, 0
	for n := range 1500 {
		text := d.thrownText(g, "union", 1<<(n%13))
		if len(text) > 40 {
			text = text[:40]
		}
		holdAgainstGrammar(t, g, 3, text)
		changed := []byte(text)
		changed[d.below(len(changed))] = everySign[d.below(len(everySign))]
		holdAgainstGrammar(t, g, 3, string(changed))
		if _, _, e := syntax.Parse(3, string(changed)); e == api.OK {
			right++
		} else {
			wrong++
		}
		if t.Failed() {
			return
		}
	}
	if right < 300 || wrong < 300 {
		t.Errorf("of the texts that were changed %d are right and %d wrong", right, wrong)
	}
}

func TestP4_1SignsBehindSigns(t *testing.T) {
	const beginning, all = "ab01.!(", "ab01.!(|&-*?)"
	const due = "!(|&-" // behind these a part must begin
	for i := range len(all) {
		sign := all[i : i+1]
		begins, awaits := strings.Contains(beginning, sign), strings.Contains(due, sign)
		// At the beginning.
		switch {
		case !begins:
			refuses(t, 2, sign, 0, api.ErrSyntax)
			refuses(t, 2, sign+"a", 0, api.ErrSyntax)
		case awaits:
			refuses(t, 2, sign, 1, api.ErrSyntax)
		default:
			holdAgainstGrammar(t, grammarOf(2), 2, sign)
		}
		// At the end, behind a part.
		text := "(a)" + sign
		_, at, e := syntax.Parse(2, text)
		switch {
		case sign == ")" && (e != api.ErrSyntax || at != 3), awaits && (e != api.ErrSyntax || at != 4), sign != ")" && !awaits && e != api.OK:
			t.Errorf("Parse(2, %q): %d, %d", text, at, e)
		}
		// Behind it each other one. More brackets are open than the two may shut, so that the text ends too early, if it is right so far.
		lead := "((("
		if !begins {
			lead = "(((a"
		}
		for j := range len(all) {
			next := all[j : j+1]
			text := lead + sign + next
			place := len(text)
			if awaits && !strings.Contains(beginning, next) {
				place--
			}
			refuses(t, 2, text, place, api.ErrSyntax)
		}
	}
}

func TestP4_1Letters(t *testing.T) {
	long := strings.Repeat("a", 1001)
	for _, k := range []int{math.MinInt, -1, 0, 9, 10, 256 + 1, 1<<32 + 2, math.MaxInt} {
		for _, text := range []string{"a", "", "  ", "a|", "i", "\xff", long, strings.Repeat("a", 129)} {
			refuses(t, k, text, 0, api.ErrLetters)
		}
	}
	for k := 1; k <= 8; k++ {
		for i := range 26 {
			sign := 'a' + byte(i)
			if i < k {
				reads(t, k, string(sign), list(letter(sign)))
				reads(t, k, " a"+string(sign), list(letter('a'), letter(sign), node(api.Concat)))
				continue
			}
			refuses(t, k, string(sign), 0, api.ErrSyntax)
			refuses(t, k, " a"+string(sign)+"a", 2, api.ErrSyntax)
			refuses(t, k, "(a)|!"+string(sign), 5, api.ErrSyntax)
			refuses(t, k, "a*"+string(sign), 2, api.ErrSyntax)
		}
		for _, upper := range "ABCDEFGH" {
			refuses(t, k, string(upper), 0, api.ErrSyntax)
		}
	}
}

func TestP4_1Long(t *testing.T) {
	for _, n := range []int{999, 1000} {
		reads(t, 1, strings.Repeat(" ", n-1)+"a", list(letter('a')))
		reads(t, 1, "a"+strings.Repeat(" ", n-1), list(letter('a')))
		refuses(t, 1, strings.Repeat(" ", n), n, api.ErrSyntax)
		refuses(t, 1, strings.Repeat("(", n), n, api.ErrSyntax)
		refuses(t, 1, strings.Repeat("!", n), n, api.ErrSyntax)
		refuses(t, 1, "a"+strings.Repeat(" ", n-2)+")", n-1, api.ErrSyntax)
		refuses(t, 1, "a"+strings.Repeat(" ", n-2)+"|", n, api.ErrSyntax)
		refuses(t, 1, strings.Repeat("a", n), 0, api.ErrDepth)
		refuses(t, 1, strings.Repeat("a", n-1)+"b", n-1, api.ErrSyntax)
	}
	for _, n := range []int{1001, 1002, 100000} {
		for _, sign := range []string{"a", " ", "(", "!", ")", "\x00", "\xff", "b"} {
			refuses(t, 1, strings.Repeat(sign, n), 0, api.ErrLong)
		}
		refuses(t, 1, strings.Repeat(" ", n-1)+"a", 0, api.ErrLong)
		refuses(t, 1, ")"+strings.Repeat(" ", n-1), 0, api.ErrLong)
	}
	// Bytes are counted, not runes: 501 of two bytes.
	refuses(t, 1, strings.Repeat("é", 501), 0, api.ErrLong)
	refuses(t, 1, strings.Repeat("é", 500), 0, api.ErrSyntax)
}

// chain is an expression of that depth, and a text of it; the deep part is the first one, or the second.
func chain(way string, depth int) (string, plain) {
	text, p := "a", leaf(letter('a'))
	for range depth - 1 {
		switch way {
		case "!":
			text, p = "!"+text, join(api.Not, p)
		case "*":
			text, p = text+"*", join(api.Star, p)
		case "?":
			text, p = text+"?", join(api.Union, p, leaf(node(api.Empty)))
		case "|":
			text, p = text+"|a", join(api.Union, p, leaf(letter('a')))
		case "&":
			text, p = text+"&a", join(api.Inter, p, leaf(letter('a')))
		case "-":
			text, p = text+"-a", join(api.Inter, p, join(api.Not, leaf(letter('a'))))
		case "":
			text, p = text+"a", join(api.Concat, p, leaf(letter('a')))
		case "|(":
			text, p = "a|("+text+")", join(api.Union, leaf(letter('a')), p)
		case "&(":
			text, p = "a&("+text+")", join(api.Inter, leaf(letter('a')), p)
		case "(":
			text, p = "a("+text+")", join(api.Concat, leaf(letter('a')), p)
		case "!(":
			text, p = "!("+text+")", join(api.Not, p)
		}
	}
	return text, p
}

func TestP4_1Depth(t *testing.T) {
	for _, way := range []string{"!", "*", "?", "|", "&", "", "|(", "&(", "(", "!("} {
		for _, depth := range []int{127, 128} {
			text, p := chain(way, depth)
			if p.depth() != depth {
				t.Fatalf("a chain by %q has the depth %d, not %d", way, p.depth(), depth)
			}
			reads(t, 1, text, p.list())
			reads(t, 1, "("+text+")", p.list())
		}
		for _, depth := range []int{129, 130, 200} {
			text, _ := chain(way, depth)
			refuses(t, 1, text, 0, api.ErrDepth)
			refuses(t, 1, " ("+text+")", 0, api.ErrDepth)
			refuses(t, 1, text+")", len(text), api.ErrSyntax)
			refuses(t, 1, text+"|", len(text)+1, api.ErrSyntax)
			refuses(t, 1, "b"+text, 0, api.ErrSyntax)
			refuses(t, 9, text, 0, api.ErrLetters)
		}
	}
	// The first "-" stands over a Not, and so is two deeper than a letter.
	for chained, depth := range map[int]int{2: 3, 127: 128, 128: 129} {
		text, p := chain("-", chained)
		if p.depth() != depth {
			t.Fatalf("a chain of %d by - has the depth %d", chained, p.depth())
		}
		if depth <= 128 {
			reads(t, 1, text, p.list())
		} else {
			refuses(t, 1, text, 0, api.ErrDepth)
		}
	}
	// The greatest number of nodes that a text has.
	refuses(t, 1, "a"+strings.Repeat("?", 999), 0, api.ErrDepth)
}

func TestP4_1NestedBrackets(t *testing.T) {
	for _, n := range []int{1, 2, 127, 128, 129, 498, 499} {
		open, shut := strings.Repeat("(", n), strings.Repeat(")", n)
		reads(t, 1, open+"a"+shut, list(letter('a')))
		reads(t, 1, open+"a"+shut+"*", list(letter('a'), node(api.Star)))
		refuses(t, 1, open+"a"+shut[1:], 2*n, api.ErrSyntax)
		refuses(t, 1, open[1:]+"a"+shut, 2*n-1, api.ErrSyntax)
		refuses(t, 1, open+shut, n, api.ErrSyntax)
		refuses(t, 1, open, n, api.ErrSyntax)
	}
	// A tree as deep as may be, each part in a bracket, in brackets that are not needed.
	text, p := chain("(", 128)
	reads(t, 1, strings.Repeat("(", 300)+text+strings.Repeat(")", 300), p.list())
}

func TestP4_1Brackets(t *testing.T) {
	for text, place := range map[string]int{
		")": 0, "(": 1, "()": 1, "a)": 1, "(a": 2, "(a))": 3, "((a)": 4, ")(": 0, "a)(": 1, "(a)(": 4, "(a)()": 4, "(a|)": 3, "(a|b))|a": 5,
		"(!)": 2, "(|a)": 1, "(*a)": 1, "a()": 2, "(a)b)c": 4, "((a)|(b)": 8, "a|(b&(a-b)": 10, "(a*": 3, "(a?": 3, "(a!": 3,
	} {
		refuses(t, 2, text, place, api.ErrSyntax)
	}
}

func TestP4_1Places(t *testing.T) {
	for _, c := range []struct {
		text  string
		place int
	}{
		{"", 0}, {" ", 1}, {"   ", 3}, {"  c", 2}, {"  c  ", 2}, {"c  ", 0}, {" a | ", 5}, {" a | * ", 5}, {"a  )  ", 3}, {" ( a ", 5},
		{"a| |", 3}, {"a ** | *", 7}, {"  !", 3}, {" ! ", 3}, {" ! )", 3}, {"a -  ", 5}, {"a - - b", 4}, {"a & | b", 4}, {"a b c d", 4}, {"( ( a ) ", 8},
		{"( ) ", 2}, {"a\t", 1}, {" \n", 1}, {"a b +", 4}, {"a|c|d", 2},
	} {
		refuses(t, 2, c.text, c.place, api.ErrSyntax)
	}
}

func TestP4_1EveryByte(t *testing.T) {
	const begins, follows = "ab01.!( ", "ab01.!( |&-*?)"
	for i := range 256 {
		b := []byte{byte(i)}
		if !strings.Contains(begins, string(b)) {
			refuses(t, 2, string(b), 0, api.ErrSyntax)
			refuses(t, 2, " "+string(b)+"a", 1, api.ErrSyntax)
			refuses(t, 2, "a|"+string(b)+" ", 2, api.ErrSyntax)
		}
		if !strings.Contains(follows, string(b)) {
			refuses(t, 2, "(a"+string(b), 2, api.ErrSyntax)
			refuses(t, 2, "(a* "+string(b)+")", 4, api.ErrSyntax)
		}
	}
	// Runes whose lowest byte is a sign, whole and cut; signs in a longer form than theirs; what other texts take for a blank.
	for _, more := range []string{"é", "š", "Ġ", "Ĩ", "Į", "ı", "š"[:1], "š"[1:], "\xc1\xa1", "\xc0\xa0", "\xe0\x81\xa1", "\u00a0", "\u2003", "\u3000", "\ufeff", "ａ", "𐁡",
		"\ufffd", "\xed\xa0\x80", "\xf4\x90\x80\x80", "\x80", "\xff\xfe", "\t", "\r\n", "\x00"} {
		refuses(t, 8, more, 0, api.ErrSyntax)
		refuses(t, 8, " "+more+"a", 1, api.ErrSyntax)
		refuses(t, 8, "a*"+more, 2, api.ErrSyntax)
		refuses(t, 8, "(a|"+more+more, 3, api.ErrSyntax)
	}
}
