package deriv_test

import (
	"strings"
	"testing"

	"eggbox/api"
	"eggbox/deriv"
	"eggbox/norm"
)

// leads holds By to an expression.
func leads(t *testing.T, p plain, w string, should plain) {
	t.Helper()
	d, e := deriv.By(p.list(), w)
	want(t, "By "+short(w), d, e, should.list())
}

func TestP703Examples(t *testing.T) {
	d, e := deriv.By(parsed(t, "(ab)*"), "abab")
	want(t, "By((ab)*, abab)", d, e, list(letter('a'), letter('b'), node(api.Concat), node(api.Star)))
}

// TestP703TheEmptyWord: the normal form, of trees that are in it and of others.
func TestP703TheEmptyWord(t *testing.T) {
	for _, p := range append(samples(), complements(everyTree(3, none, empty, a))...) {
		n, e := norm.Normal(p.list())
		if e != api.OK {
			t.Fatalf("Normal: %d", e)
		}
		d, e := deriv.By(p.list(), "")
		want(t, "By the empty word", d, e, n)
		leads(t, p, "", p.normal())
	}
	for _, p := range []plain{row(2000), not(row(2000)), star(row(2000)), over, not(full)} {
		leads(t, p, "", p)
	}
	leads(t, nested(a, 3999, api.Star), "", star(a))
}

func TestP703Words(t *testing.T) {
	ab := star(cat(a, b))
	rest := cat(b, ab)
	for _, x := range []struct {
		p      plain
		w      string
		should plain
	}{
		{ab, "a", rest}, {ab, "ab", ab}, {ab, "aba", rest}, {ab, "abb", none}, {ab, "abbabab", none}, {ab, "ba", none},
		{not(ab), "a", not(rest)}, {not(ab), "ab", not(ab)}, {not(ab), "abbb", all}, {not(ab), "abbba", all},
		{row(3), "aa", a}, {row(3), "aaa", empty}, {row(3), "aaaa", none}, {row(3), "aaaaa", none},
		{h, "h", empty}, {h, "a", none}, {h, "hh", none}, {star(h), "hhhh", star(h)}, {cat(dot, cat(dot, h)), "ah", h}, {cat(dot, cat(dot, h)), "hah", empty},
		{cat(star(a), b), "aab", empty}, {cat(star(a), b), "aaba", none}, {cat(all, cat(a, b)), "ba", or(b, cat(all, cat(a, b)))}, {cat(all, cat(a, b)), "bab", or(empty, cat(all, cat(a, b)))},
		{none, "abcdefgh", none}, {empty, "a", none}, {empty, "ab", none}, {all, "abcdefgh", all}, {star(dot), "h", all}, {dot, "c", empty}, {dot, "cc", none},
		{star(star(a)), "aa", star(a)}, {not(star(star(a))), "aa", not(star(a))}, {not(star(star(a))), "ab", all},
	} {
		leads(t, x.p, x.w, x.should)
	}
}

func TestP703ByTheDefinition(t *testing.T) {
	d := dice(314159265)
	for _, p := range append(samples(), complements(everyTree(2, none, empty, dot, a, b))...) {
		for _, w := range []string{"ab", "aab", "hba", d.word(3, 5), d.word(8, 4)} {
			should, most := p.by(w)
			if most <= api.MaxNodes {
				leads(t, p, w, should)
				continue
			}
			l, e := deriv.By(p.list(), w)
			refused(t, "By "+w, len(l) == 0, e, api.ErrSize)
		}
	}
}

// TestP703EveryByte: at the first, a middle and the last place, and alone.
func TestP703EveryByte(t *testing.T) {
	for _, p := range []plain{none, all, star(dot), star(a), cat(a, b)} {
		for x := range 256 {
			own := string([]byte{byte(x)})
			for _, w := range []string{own, own + "abh", "ab" + own + "h", "abh" + own, own + own, "a" + own} {
				if 'a' <= x && x <= 'h' {
					should, _ := p.by(w)
					leads(t, p, w, should)
					continue
				}
				d, e := deriv.By(p.list(), w)
				refused(t, "By a word with a byte that is no letter", len(d) == 0, e, api.ErrLetter)
			}
		}
	}
}

// TestP703LongSigns: signs of several bytes, some with a letter's number in their last bits, and bytes that are none of a sign.
func TestP703LongSigns(t *testing.T) {
	for _, sign := range []string{"\u0161", "\u0261", "\u0168", "\u6161", "\uff41", "\U00010061", "\u00e1", "\x80", "\xbf", "\xc0", "\xe1", "\xe8", "\xff", "\xe1a", "\xc5\xa1", "\xc5a", "\xf0\x90\x81", "\ufffd", "\u0000"} {
		for _, w := range []string{sign, sign + "ab", "a" + sign + "b", "ab" + sign} {
			for _, p := range []plain{none, all, star(a), over} {
				d, e := deriv.By(p.list(), w)
				refused(t, "By a word with another sign", len(d) == 0, e, api.ErrLetter)
			}
		}
	}
}

func TestP703LongWords(t *testing.T) {
	leads(t, row(2000), strings.Repeat("a", 1998), cat(a, a))
	leads(t, row(2000), strings.Repeat("a", 2000), empty)
	leads(t, row(2000), strings.Repeat("a", 2001), none)
	ab := star(cat(a, b))
	leads(t, ab, strings.Repeat("ab", 5000), ab)
	leads(t, ab, strings.Repeat("ab", 5000)+"a", cat(b, ab))
	leads(t, not(ab), strings.Repeat("ab", 5000)+"b"+strings.Repeat("ab", 5000), all)
	d, e := deriv.By(ab.list(), strings.Repeat("ab", 5000)+"i")
	refused(t, "By a long word with i behind it", len(d) == 0, e, api.ErrLetter)
}
