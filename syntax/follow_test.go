package syntax_test

import (
	"slices"
	"strings"
	"testing"

	"eggbox/api"
	"eggbox/syntax"
)

func TestP4_3Printed(t *testing.T) {
	for _, p := range samples() {
		l := p.list()
		s, e := syntax.Print(8, l)
		if e != api.OK {
			t.Fatalf("Print(%v): %d", brief(l), e)
		}
		reads(t, 8, s, l)
	}
	// With one k, whichever it is.
	for _, p := range slices.Concat(everyTree(4, letter('a'), node(api.Any))...) {
		for k := 1; k <= 8; k++ {
			s, _ := syntax.Print(k, p.list())
			reads(t, k, s, p.list())
		}
	}
	for _, way := range []string{"!", "*", "|", "&", "", "|(", "&(", "(", "!("} {
		_, p := chain(way, 128)
		s, _ := syntax.Print(1, p.list())
		reads(t, 1, s, p.list())
	}
	p := rows(100, 100, 100, 100, 100, 100, 100, 100, 100, 91)
	s, _ := syntax.Print(1, p.list())
	reads(t, 1, s, p.list())
}

// thrownTexts are texts that are read, with all signs, blanks, and brackets that are not needed.
func thrownTexts(k, n int) []string {
	d := dice(362436069)
	g := grammarOf(k)
	var out []string
	for i := range n {
		if text := d.thrownText(g, "union", 1<<(i%16)); len(text) <= 500 {
			out = append(out, text)
		}
	}
	return out
}

func TestP4_3Read(t *testing.T) {
	for _, text := range thrownTexts(3, 2000) {
		l, _, e := syntax.Parse(3, text)
		if e != api.OK {
			t.Fatalf("Parse(%q): %d", text, e)
		}
		s, e := syntax.Print(3, l)
		if e != api.OK {
			t.Fatalf("Print of %q: %d", text, e)
		}
		reads(t, 3, s, l)
	}
}

func TestP4_4Blanks(t *testing.T) {
	texts := append(thrownTexts(3, 300), "", " ", "a|", "a)b", "c", "d", "( a", "a**|*", "(a))", "!", "a-", "a\xffb", "aéb", "()", "(", ")", "*a", strings.Repeat("a", 129),
		strings.Repeat("!", 128)+"a", strings.Repeat("(", 499)+"a"+strings.Repeat(")", 499))
	for _, text := range texts {
		l, at, e := syntax.Parse(3, text)
		for i := range len(text) + 1 {
			// Between the bytes of a rune, too: it is wrong there as it was.
			more, there, wrong := syntax.Parse(3, text[:i]+" "+text[i:])
			if !slices.Equal(more, l) || wrong != e {
				t.Fatalf("%q: a blank at %d makes it %v, %d, %d; it was %v, %d, %d", text, i, more, there, wrong, l, at, e)
			}
			moved := 0
			if e == api.ErrSyntax && i <= at {
				moved = 1
			}
			if there != at+moved {
				t.Fatalf("%q: a blank at %d moves the place from %d to %d", text, i, at, there)
			}
		}
	}
}

func TestP4_5Shortest(t *testing.T) {
	read := 0
	for _, c := range []struct {
		signs string
		most  int
	}{{"a()|&!*", 6}, {"ab01.()|&!*", 5}} {
		var longer func(text string)
		longer = func(text string) {
			if l, _, e := syntax.Parse(2, text); e == api.OK {
				read++
				if s, e := syntax.Print(2, l); len(s) > len(text) || e != api.OK {
					t.Errorf("%q is printed as %q, %d", text, s, e)
				}
			}
			if len(text) < c.most {
				for i := range len(c.signs) {
					longer(text + c.signs[i:i+1])
				}
			}
		}
		longer("")
	}
	if read < 1000 {
		t.Errorf("%d texts alone were read", read)
	}
}

func TestP4_5NoBracketsTooMany(t *testing.T) {
	// Without any one pair of its brackets a text is no more read as what it was.
	for _, p := range samples() {
		l := p.list()
		s, _ := syntax.Print(8, l)
		var open []int
		for i := range len(s) {
			switch s[i] {
			case '(':
				open = append(open, i)
			case ')':
				from := open[len(open)-1]
				open = open[:len(open)-1]
				less := s[:from] + s[from+1:i] + s[i+1:]
				if again, _, e := syntax.Parse(8, less); e == api.OK && slices.Equal(again, l) {
					t.Fatalf("%q is read as %q is", less, s)
				}
			}
		}
	}
}

func TestP4_6MoreLetters(t *testing.T) {
	for k := 1; k < 8; k++ {
		last := string([]byte{'a' + byte(k) - 1})
		texts := append(thrownTexts(k, 300), "a", last, last+"|!"+last+"*", " ( "+last+" - a ) ? ")
		for _, text := range texts {
			l, _, e := syntax.Parse(k, text)
			if e != api.OK {
				t.Fatalf("Parse(%d, %q): %d", k, text, e)
			}
			for more := k + 1; more <= 8; more++ {
				reads(t, more, text, l)
			}
		}
	}
}
