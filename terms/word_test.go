package terms_test

import (
	"math"
	"strings"
	"testing"
	"unsafe"

	"eggbox/api"
	"eggbox/terms"
)

// size is how many letters a side's word has, or one more than may be, and word is it, by the definition.
func (p plain) size(values []string, times int) int {
	n := 0
	switch p.sign.Kind {
	case api.Var:
		n = len(values[placeOf(p.sign.Name)])
	case api.Mul:
		n = p.parts[0].size(values, times) + p.parts[1].size(values, times)
	case api.Omega:
		n = p.parts[0].size(values, times)
		if n > 0 && times > api.MaxLength {
			n = api.MaxLength + 1
		} else {
			n *= times
		}
	}
	return min(n, api.MaxLength+1)
}

func (p plain) word(values []string, times int) string {
	switch p.sign.Kind {
	case api.One:
		return ""
	case api.Var:
		return values[placeOf(p.sign.Name)]
	case api.Mul:
		return p.parts[0].word(values, times) + p.parts[1].word(values, times)
	}
	part := p.parts[0].word(values, times)
	if part == "" {
		return ""
	}
	return strings.Repeat(part, times)
}

func TestP1907Examples(t *testing.T) {
	x, y := variable('x'), variable('y')
	p := mul(omega(mul(x, y)), x)
	ab := []string{"a", "b"}
	spells(t, 2, p.list(), ab, 2, "ababa")
	spells(t, 2, p.list(), ab, 1, "aba")
	spells(t, 2, p.list(), []string{"", "b"}, 3, "bbb")
	spells(t, 2, p.list(), []string{"", ""}, 3, "")
	spells(t, 2, p.list(), []string{"ab", ""}, 2, "ababab")
	spells(t, 8, p.list(), []string{"h", "ag"}, 1, "hagh")
	spells(t, 1, one().list(), nil, 1, "")
	spells(t, 1, omega(one()).list(), nil, math.MaxInt, "")
	spells(t, 2, x.list(), ab, math.MaxInt, "a")
	spells(t, 2, mul(y, x).list(), ab, 5, "ba")
	spells(t, 2, omega(omega(x)).list(), []string{"ab"}, 3, strings.Repeat("ab", 9))
	spells(t, 2, variable('t').list(), []string{"", "c", "\xff", "b"}, 1, "b")
}

func TestP1907ByDefinition(t *testing.T) {
	d := dice(1907)
	met := map[api.Errno]int{}
	all := sides()
	for range 30000 {
		p := all[d.below(len(all))]
		k := 1 + d.below(8)
		var values []string
		for range 4 {
			values = append(values, d.word(k, max(0, d.below(9)-2)))
		}
		times := 1 + d.below(1<<d.below(13))
		if p.size(values, times) > api.MaxLength {
			met[api.ErrSize]++
			unspelt(t, k, p.list(), values, times, api.ErrSize)
		} else {
			met[api.OK]++
			spells(t, k, p.list(), values, times, p.word(values, times))
		}
	}
	if met[api.OK] < 3000 || met[api.ErrSize] < 3000 {
		t.Errorf("of the words %v", met)
	}
}

func TestP1907Size(t *testing.T) {
	x, y := variable('x'), variable('y')
	a, most := strings.Repeat("a", api.MaxLength), api.MaxLength
	spells(t, 1, x.list(), []string{a}, 1, a)
	unspelt(t, 1, x.list(), []string{a + "a"}, 1, api.ErrSize)
	spells(t, 1, omega(x).list(), []string{a}, 1, a)
	unspelt(t, 1, omega(x).list(), []string{a}, 2, api.ErrSize)
	unspelt(t, 1, omega(x).list(), []string{a + "a"}, 1, api.ErrSize)
	spells(t, 1, omega(x).list(), []string{"a"}, most, a)
	unspelt(t, 1, omega(x).list(), []string{"a"}, most+1, api.ErrSize)
	spells(t, 1, mul(x, y).list(), []string{a[1:], "a"}, 1, a)
	spells(t, 1, mul(x, y).list(), []string{"", a}, 1, a)
	spells(t, 1, mul(x, omega(y)).list(), []string{a, ""}, math.MaxInt, a)
	unspelt(t, 1, mul(x, y).list(), []string{a, "a"}, 1, api.ErrSize)
	unspelt(t, 1, mul(x, y).list(), []string{a + "a", ""}, 1, api.ErrSize)
	unspelt(t, 1, mul(y, x).list(), []string{a + "a", ""}, 1, api.ErrSize)
	unspelt(t, 1, mul(one(), omega(x)).list(), []string{a + a}, 1, api.ErrSize)
	spells(t, 1, mul(x, y).list(), []string{a[:most/2], a[most/2:]}, 1, a)
	unspelt(t, 1, mul(x, y).list(), []string{a[:most/2+1], a[most/2:]}, 1, api.ErrSize)
	spells(t, 1, omega(omega(x)).list(), []string{"a"}, 64, a)
	unspelt(t, 1, omega(omega(x)).list(), []string{"a"}, 65, api.ErrSize)
	spells(t, 1, omegas(x, 12).list(), []string{"a"}, 2, a)
	unspelt(t, 1, omegas(x, 13).list(), []string{"a"}, 2, api.ErrSize)
	unspelt(t, 1, mul(omegas(x, 12), x).list(), []string{"a"}, 2, api.ErrSize)
	unspelt(t, 1, omegas(x, 399).list(), []string{"a"}, 2, api.ErrSize)
	spells(t, 1, omegas(x, 399).list(), []string{a}, 1, a)
	spells(t, 1, omegas(x, 399).list(), []string{""}, math.MaxInt, "")
	// Sizes that would wrap round.
	for _, times := range []int{1 << 62, 1 << 61, 1 << 52, 1<<62 + 1, math.MaxInt, math.MaxInt - 1, 1 << 32, 1<<32 + 1} {
		for _, value := range []string{"a", "aa", "aaaa", "aaaaaaaa", a} {
			unspelt(t, 1, omega(x).list(), []string{value}, times, api.ErrSize)
			unspelt(t, 1, omega(omega(x)).list(), []string{value}, times, api.ErrSize)
			unspelt(t, 1, mul(omega(x), y).list(), []string{value, a}, times, api.ErrSize)
		}
		spells(t, 1, mul(omega(x), y).list(), []string{"", "a"}, times, "a")
	}
	// 200 times, and once too often.
	spells(t, 1, row(200).list(), []string{a[:20]}, 1, a[:4000])
	unspelt(t, 1, row(200).list(), []string{a[:21]}, 1, api.ErrSize)
	unspelt(t, 1, row(200).list(), []string{a}, 1, api.ErrSize)
	unspelt(t, 1, row(200).list(), []string{strings.Repeat(a, 256)}, 1, api.ErrSize)
	spells(t, 1, y.list(), []string{strings.Repeat(a, 256), "a"}, 1, "a")
}

// TestP1907Errors: one after the other, with all that may be wrong behind it.
func TestP1907Errors(t *testing.T) {
	x, y := variable('x'), variable('y')
	good := mul(x, y).list()
	more := omega(omega(row(200))).list()
	none := []api.Sign{{Kind: api.Mul}}
	for _, k := range []int{0, -1, 9, 10, 256, 257, 1<<32 + 1, math.MinInt, math.MaxInt} {
		for _, side := range [][]api.Sign{good, more, none, nil} {
			for _, values := range [][]string{{"a", "b"}, {"i"}, nil} {
				for _, times := range []int{1, 0, -1, math.MaxInt} {
					unspelt(t, k, side, values, times, api.ErrLetters)
				}
			}
		}
	}
	for k := 1; k <= api.MaxLetters; k++ {
		last := string([]byte{'a' + byte(k) - 1})
		past := string([]byte{'a' + byte(k)})
		for _, values := range [][]string{{last, "a"}, {past, "a"}, {"a"}, nil} {
			for _, times := range []int{1, 0, -1, math.MinInt, math.MaxInt} {
				unspelt(t, k, more, values, times, api.ErrSize)
				unspelt(t, k, make([]api.Sign, 1<<16), values, times, api.ErrSize)
				for _, side := range noSides()[:20] {
					unspelt(t, k, side, values, times, api.ErrTerm)
				}
				if times < 1 {
					unspelt(t, k, good, values, times, api.ErrArg)
					unspelt(t, k, one().list(), values, times, api.ErrArg)
				}
			}
		}
		unspelt(t, k, good, nil, 1, api.ErrNone)
		unspelt(t, k, good, []string{past}, 1, api.ErrNone)
		unspelt(t, k, good, []string{strings.Repeat("a", 5000)}, 1, api.ErrNone)
		unspelt(t, k, mul(variable('t'), x).list(), []string{past, past, past}, 1, api.ErrNone)
		for _, w := range []string{past, "a" + past, past + "a", strings.Repeat("a", 5000) + past, "A", "\x00", "a b", " ", "é", "a\xff", "`", "i"} {
			unspelt(t, k, good, []string{w, "a"}, 1, api.ErrLetter)
			unspelt(t, k, good, []string{"a", w}, 1, api.ErrLetter)
			unspelt(t, k, good, []string{strings.Repeat("a", 5000), w}, 1, api.ErrLetter)
			unspelt(t, k, good, []string{w, w}, math.MaxInt, api.ErrLetter)
			spells(t, k, x.list(), []string{last, w, w, w, w}, 1, last)
			spells(t, k, one().list(), []string{w, w, w, w, w}, 1, "")
			spells(t, k, variable('t').list(), []string{w, w, w, last, w}, 1, last)
		}
		unspelt(t, k, good, []string{strings.Repeat("a", 4000), strings.Repeat(last, 97)}, 1, api.ErrSize)
		spells(t, k, good, []string{strings.Repeat("a", 4000), strings.Repeat(last, 96)}, 1, strings.Repeat("a", 4000)+strings.Repeat(last, 96))
	}
}

// TestP1WordsAreNew: also the word of a variable alone is none of those that were handed in.
func TestP1WordsAreNew(t *testing.T) {
	w := strings.Repeat("ab", 20)
	for _, p := range []plain{variable('x'), omega(variable('x')), mul(one(), variable('x')), mul(variable('x'), variable('y')), omega(omega(mul(variable('y'), variable('x'))))} {
		out, e := terms.Word(2, p.list(), []string{w, ""}, 1)
		if out != w || e != api.OK {
			t.Fatalf("Word of %s: %q, %d", p.text(), out, e)
		}
		if unsafe.StringData(out) == unsafe.StringData(w) {
			t.Errorf("the word of %s is the one that was handed in", p.text())
		}
	}
}
