package match_test

import (
	"math"
	"slices"
	"testing"

	"eggbox/api"
	"eggbox/bits"
	"eggbox/match"
)

var evens = star(cat(a, b))

func TestP6_1Examples(t *testing.T) {
	if is, e := match.Nullable(list(letter('a'), letter('b'), node(api.Concat), node(api.Star))); !is || e != api.OK {
		t.Errorf("Nullable: %t, %d", is, e)
	}
}

func TestP6_1Nullable(t *testing.T) {
	for _, x := range []struct {
		p      plain
		should bool
	}{
		{none, false}, {empty, true}, {a, false}, {h, false}, {dot, false},
		{not(none), true}, {not(empty), false}, {not(a), true}, {not(dot), true}, {not(not(a)), false}, {not(not(empty)), true},
		{or(a, b), false}, {or(a, empty), true}, {or(empty, a), true}, {or(empty, empty), true}, {or(none, none), false},
		{and(empty, a), false}, {and(a, empty), false}, {and(empty, empty), true}, {and(not(a), star(b)), true},
		{cat(empty, a), false}, {cat(a, empty), false}, {cat(empty, empty), true}, {cat(star(a), not(b)), true}, {cat(none, empty), false}, {cat(empty, none), false},
		{star(none), true}, {star(empty), true}, {star(a), true}, {star(dot), true}, {star(star(a)), true}, {star(not(empty)), true}, {star(all), true},
		{not(star(none)), false}, {not(star(empty)), false}, {not(star(a)), false}, {not(star(dot)), false}, {not(star(star(a))), false},
	} {
		if got, e := match.Nullable(x.p.list()); got != x.should || e != api.OK {
			t.Errorf("Nullable(%v): %t, %d", x.p.list(), got, e)
		}
	}
}

func TestP6_1ByTheDefinition(t *testing.T) {
	for _, p := range samples() {
		should := p.language([]string{""})[""]
		if got, e := match.Nullable(p.list()); got != should || e != api.OK {
			t.Errorf("Nullable(%v): %t, %d", p.list(), got, e)
		}
	}
}

func TestP6_2Examples(t *testing.T) {
	is(t, evens, "abab", true)
	is(t, evens, "aba", false)
	is(t, cat(dot, dot), "ch", true)
	is(t, cat(dot, dot), "c", false)
	is(t, star(not(a)), "a", false)
	is(t, star(not(a)), "aa", true)
	if got, e := match.Member(evens.list(), "x"); got || e != api.ErrLetter {
		t.Errorf("Member of x: %t, %d", got, e)
	}
}

func TestP6_2EachLetter(t *testing.T) {
	for sign := byte('a'); sign <= 'h'; sign++ {
		p := leaf(letter(sign))
		for other := byte('a'); other <= 'h'; other++ {
			w := string([]byte{other})
			is(t, p, w, sign == other)
			is(t, not(p), w, sign != other)
			is(t, dot, w, true)
			is(t, not(dot), w, false)
			is(t, star(p), w+w, sign == other)
			is(t, or(p, empty), w, sign == other)
		}
		is(t, p, "", false)
		is(t, p, times(string([]byte{sign}), 2), false)
	}
	is(t, dot, "", false)
	is(t, dot, "ah", false)
}

// stars are stars of parts that derive the empty word, of parts that derive nothing, of Any, and stars of stars, each with what it says of a word of a and b.
func stars() []struct {
	p    plain
	says func(w string) bool
} {
	emptyOnly := func(w string) bool { return w == "" }
	every := func(string) bool { return true }
	onlyA := func(w string) bool { return w == times("a", len(w)) }
	even := func(w string) bool { return len(w)%2 == 0 }
	return []struct {
		p    plain
		says func(w string) bool
	}{
		{star(none), emptyOnly}, {star(empty), emptyOnly}, {star(cat(a, none)), emptyOnly}, {star(and(a, b)), emptyOnly}, {star(and(a, cat(a, a))), emptyOnly}, {star(not(all)), emptyOnly}, {star(star(none)), emptyOnly}, {star(or(empty, none)), emptyOnly},
		{star(dot), every}, {star(all), every}, {star(or(dot, empty)), every}, {star(not(empty)), every}, {star(star(dot)), every}, {star(or(a, b)), every}, {star(or(star(a), star(b))), every}, {star(cat(star(a), star(b))), every},
		{star(a), onlyA}, {star(or(a, empty)), onlyA}, {star(or(empty, a)), onlyA}, {star(star(a)), onlyA}, {star(star(star(a))), onlyA}, {star(cat(star(a), star(a))), onlyA}, {star(cat(or(empty, a), or(a, empty))), onlyA}, {star(or(cat(a, a), or(a, cat(a, cat(a, a))))), onlyA},
		{star(cat(dot, dot)), even}, {star(or(empty, cat(dot, dot))), even}, {star(star(cat(dot, dot))), even}, {star(and(star(cat(dot, dot)), not(empty))), even},
		// All words but "a" are words of the part themselves; and "a" can't be made of them.
		{star(not(a)), func(w string) bool { return w != "a" }},
		{star(not(dot)), func(w string) bool { return len(w) != 1 }},
		// By threes and fives one comes to all lengths but these.
		{star(or(cat(dot, cat(dot, dot)), cat(dot, cat(dot, cat(dot, cat(dot, dot)))))), func(w string) bool { return !slices.Contains([]int{1, 2, 4, 7}, len(w)) }},
	}
}

func TestP6_2Stars(t *testing.T) {
	for _, s := range stars() {
		for _, w := range words(2, 9) {
			is(t, s.p, w, s.says(w))
			is(t, not(s.p), w, !s.says(w))
			is(t, not(not(s.p)), w, s.says(w))
		}
	}
}

func TestP6_2ByTheDefinition(t *testing.T) {
	asked := words(2, 4)
	for _, p := range samples() {
		should := p.language(asked)
		for _, w := range asked {
			is(t, p, w, should[w])
		}
	}
}

// TestP6_2LongerWords holds thrown expressions of more nodes, and words of more letters, to the definition.
func TestP6_2LongerWords(t *testing.T) {
	asked := words(2, 7)
	d := dice(31)
	for nodes := 3; nodes < 40; nodes++ {
		for range 4 {
			p := d.thrown(nodes)
			should := p.language(asked)
			for _, w := range asked {
				is(t, p, w, should[w])
			}
		}
	}
}

func TestP6_2ByHowManyLetters(t *testing.T) {
	for _, letters := range []int{0, 1, 2, 63, 64, 65, 127, 128, 256, 447, 448, 449, 509, 510, 511} {
		w := times("ab", 256)[:letters]
		is(t, star(dot), w, true)
		is(t, not(star(dot)), w, false)
		is(t, evens, w, letters%2 == 0)
		is(t, cat(evens, a), w, letters%2 == 1)
		is(t, not(evens), w, letters%2 == 1)
		is(t, star(cat(dot, cat(dot, dot))), w, letters%3 == 0)
		is(t, all, w, true)
		is(t, none, w, false)
		is(t, empty, w, letters == 0)
		is(t, not(empty), w, letters > 0)
		is(t, cat(all, b), w, letters > 0 && letters%2 == 0)
		is(t, cat(a, all), w, letters > 0)
		is(t, cat(all, cat(cat(b, b), all)), w, false)
		is(t, star(or(cat(a, b), a)), w, true)
	}
}

func TestP6_2WrongWords(t *testing.T) {
	p := star(dot).list()
	refused := func(w string, should api.Errno) {
		t.Helper()
		if got, e := match.Member(p, w); got || e != should {
			t.Errorf("Member of %q, %d bytes: %t, %d; should be %d", short(w), len(w), got, e, should)
		}
		if got, e := match.Ends(p, w, 0); got != (api.Set{}) || e != should {
			t.Errorf("Ends of %q, %d bytes: %v, %d; should be %d", short(w), len(w), got, e, should)
		}
	}
	for sign := range 256 {
		if sign >= 'a' && sign <= 'h' {
			continue
		}
		wrong := string([]byte{byte(sign)})
		for _, w := range []string{wrong, "a" + wrong, wrong + "a", "ab" + wrong + "ab", times("h", 510) + wrong, times("h", 511) + wrong, times("a", 600) + wrong, times("a", 511) + wrong + "a"} {
			refused(w, api.ErrLetter)
		}
	}
	refused("`", api.ErrLetter)
	refused("i", api.ErrLetter)
	refused("ä", api.ErrLetter)
	for _, letters := range []int{512, 513, 575, 1024, 4096, 4097, 100000} {
		refused(times("a", letters), api.ErrLong)
		refused(times("h", letters), api.ErrLong)
		refused(times("a", letters-1)+"i", api.ErrLetter)
		refused("`"+times("a", letters-1), api.ErrLetter)
	}
	is(t, star(dot), times("h", 511), true)
	is(t, star(dot), times("a", 510)+"h", true)
}

func TestP6_3Examples(t *testing.T) {
	ends(t, evens, "ababa", 0, []int{0, 2, 4})
	ends(t, evens, "ababa", 1, []int{1})
	if got, e := match.Ends(evens.list(), "ababa", 6); got != (api.Set{}) || e != api.ErrRange {
		t.Errorf("Ends from 6 on: %v, %d", got, e)
	}
}

func TestP6_3Places(t *testing.T) {
	for _, w := range []string{"", "a", "abab", times("ab", 255), times("ab", 255) + "a"} {
		ends(t, star(dot), w, 0, between(0, len(w), 1))
		ends(t, star(dot), w, len(w), []int{len(w)})
		ends(t, dot, w, len(w), nil)
		ends(t, none, w, 0, nil)
		for _, i := range []int{-1, -2, -len(w) - 1, len(w) + 1, len(w) + 2, 512, 1 << 20, math.MinInt, math.MaxInt} {
			if got, e := match.Ends(star(dot).list(), w, i); got != (api.Set{}) || e != api.ErrRange {
				t.Errorf("%d letters, from %d on: %v, %d", len(w), i, bits.List(got), e)
			}
		}
	}
}

// definedEnds is what Ends should be: all ends of pieces that are words of the language.
func (l language) definedEnds(w string, i int) []int {
	var out []int
	for j := i; j <= len(w); j++ {
		if l[w[i:j]] {
			out = append(out, j)
		}
	}
	return out
}

func TestP6_3ByTheDefinition(t *testing.T) {
	asked := words(2, 4)
	longer := []string{"aabb", "abab", "bbba", "aaaa", "baab"}
	for _, p := range samples() {
		should := p.language(asked)
		for _, w := range longer {
			for i := range len(w) + 1 {
				ends(t, p, w, i, should.definedEnds(w, i))
			}
		}
	}
}

func TestP6_3LongerWords(t *testing.T) {
	asked := words(2, 7)
	d := dice(77)
	for nodes := 2; nodes < 40; nodes++ {
		for range 4 {
			p := d.thrown(nodes)
			should := p.language(asked)
			for letters := 5; letters <= 7; letters++ {
				w := d.word(2, letters)
				for i := range len(w) + 1 {
					ends(t, p, w, i, should.definedEnds(w, i))
				}
			}
		}
	}
}

// TestP6_3Concats: of two parts that meet at the word's ends, so that one of them has the empty word, and in between.
func TestP6_3Concats(t *testing.T) {
	aStar, bStar := star(a), star(b)
	ends(t, cat(aStar, bStar), "aabb", 0, []int{0, 1, 2, 3, 4})
	ends(t, cat(aStar, bStar), "bbaa", 0, []int{0, 1, 2})
	ends(t, cat(aStar, bStar), "aaaa", 0, []int{0, 1, 2, 3, 4})
	ends(t, cat(aStar, bStar), "bbbb", 0, []int{0, 1, 2, 3, 4})
	ends(t, cat(cat(a, a), bStar), "aa", 0, []int{2})
	ends(t, cat(bStar, cat(a, a)), "aa", 0, []int{2})
	ends(t, cat(a, empty), "aa", 1, []int{2})
	ends(t, cat(empty, a), "aa", 1, []int{2})
	ends(t, cat(empty, a), "aa", 2, nil)
	ends(t, cat(empty, empty), "aa", 2, []int{2})
	ends(t, cat(a, a), "aa", 1, nil)
	ends(t, cat(all, all), "abab", 2, []int{2, 3, 4})
	ends(t, cat(cat(all, b), all), "aaba", 0, []int{3, 4})
	ends(t, cat(not(empty), not(empty)), "aaba", 1, []int{3, 4})
}

// TestP6_3GreatWords: words of all places that a set has, in which it can be counted where the pieces end.
func TestP6_3GreatWords(t *testing.T) {
	for _, letters := range []int{510, 511} {
		w := times("a", letters)
		for _, i := range []int{0, 1, 63, 64, 448, 510, letters} {
			if i > letters {
				continue
			}
			ends(t, star(a), w, i, between(i, letters, 1))
			ends(t, star(cat(a, a)), w, i, between(i, letters, 2))
			ends(t, and(star(left(api.Concat, 3, a)), star(left(api.Concat, 5, a))), w, i, between(i, letters, 15))
			ends(t, not(star(cat(a, a))), w, i, between(i+1, letters, 2))
			ends(t, not(star(dot)), w, i, nil)
			ends(t, not(empty), w, i, between(i+1, letters, 1))
			ends(t, star(not(a)), w, i, slices.DeleteFunc(between(i, letters, 1), func(j int) bool { return j == i+1 }))
			ends(t, star(b), w, i, []int{i})
			ends(t, right(api.Concat, 300, or(a, empty)), w, i, between(i, min(letters, i+300), 1))
			ends(t, left(api.Concat, 300, or(empty, a)), w, i, between(i, min(letters, i+300), 1))
			ends(t, right(api.Concat, 500, a), w, i, between(i+500, min(letters, i+500), 1))
			ends(t, left(api.Concat, letters, a), w, i, between(i+letters, min(letters, i+letters), 1))
		}
	}
	ends(t, cat(all, b), times("aab", 170)+"a", 1, between(3, 510, 3))
}
