package monoid_test

import (
	"math"
	"slices"
	"strings"
	"testing"

	"eggbox/api"
	"eggbox/monoid"
)

// answers are what the calls that answer an error answer.
type answers struct {
	word    string
	is      bool
	trans   api.Trans
	numbers [5]int // of Element, Product, Right, Left, Power
	errors  [8]api.Errno
}

func everyAnswer(m *monoid.Monoid, w string, i, j int, letter byte, n uint64) answers {
	var out answers
	out.word, out.errors[0] = m.Word(i)
	out.is, out.errors[1] = m.Accept(i)
	out.trans, out.errors[2] = m.Trans(i)
	out.numbers[0], out.errors[3] = m.Element(w)
	out.numbers[1], out.errors[4] = m.Product(i, j)
	out.numbers[2], out.errors[5] = m.Right(i, letter)
	out.numbers[3], out.errors[6] = m.Left(i, letter)
	out.numbers[4], out.errors[7] = m.Power(i, n)
	return out
}

// onlyErrors are the answers without what stands beside an error.
func (a answers) onlyErrors() answers {
	if a.errors[0] != api.OK {
		a.word = ""
	}
	if a.errors[1] != api.OK {
		a.is = false
	}
	if a.errors[2] != api.OK {
		a.trans = api.Trans{}
	}
	for at := range a.numbers {
		if a.errors[3+at] != api.OK {
			a.numbers[at] = 0
		}
	}
	return a
}

// shouldBe are the errors of all calls on a monoid of n elements and k letters, by the chapter, in its order.
func shouldBe(n, k int, w string, i, j int, letter byte) [8]api.Errno {
	none := func(x int) bool { return x < 0 || x >= n }
	var out [8]api.Errno
	for _, sign := range []byte(w) {
		if sign < 'a' || sign >= 'a'+byte(k) {
			out[3] = api.ErrLetter
		}
	}
	if none(i) || none(j) {
		out[4] = api.ErrRange
	}
	if letter < 'a' || letter >= 'a'+byte(k) {
		out[5], out[6] = api.ErrLetter, api.ErrLetter
	}
	if none(i) {
		for _, at := range []int{0, 1, 2, 5, 6, 7} {
			out[at] = api.ErrRange
		}
	}
	return out
}

// TestP14_3NoElement: below 0, at Len and far past it, alone and with a wrong letter, which is told later.
func TestP14_3NoElement(t *testing.T) {
	for _, s := range samples() {
		m := built(t, s.a)
		for _, none := range noElements(m.Len()) {
			// Numbers near the limits of small monoids may be elements of the greatest ones.
			if none >= 0 && none < m.Len() {
				continue
			}
			for _, letter := range []byte{'a', 'z', 0} {
				for _, p := range [][2]int{{none, 0}, {none, none}, {0, none}, {m.Len() - 1, none}} {
					got := everyAnswer(m, "a", p[0], p[1], letter, 1)
					if got.errors != shouldBe(m.Len(), s.a.Letters, "a", p[0], p[1], letter) || got != got.onlyErrors() {
						t.Fatalf("%s: %v of %d elements, letter %d: %+v", s.name, p, m.Len(), letter, got)
					}
					if got.errors[4] != api.ErrRange {
						t.Fatalf("%s: Product of %v: %d", s.name, p, got.errors[4])
					}
				}
			}
			for _, n := range []uint64{0, 1, math.MaxUint64} {
				if i, e := m.Power(none, n); i != 0 || e != api.ErrRange {
					t.Fatalf("%s: Power(%d, %d): %d, %d", s.name, none, n, i, e)
				}
			}
		}
	}
}

// TestP14_3NoLetter: each byte that is none, alone and within words.
func TestP14_3NoLetter(t *testing.T) {
	for k := 1; k <= 8; k++ {
		m := built(t, lastLetter(k, 10))
		for _, sign := range noLetters(k) {
			for _, i := range []int{0, 1, m.Len() - 1} {
				if to, e := m.Right(i, sign); to != 0 || e != api.ErrLetter {
					t.Errorf("%d letters: Right(%d, %d): %d, %d", k, i, sign, to, e)
				}
				if to, e := m.Left(i, sign); to != 0 || e != api.ErrLetter {
					t.Errorf("%d letters: Left(%d, %d): %d, %d", k, i, sign, to, e)
				}
			}
			one := string([]byte{sign})
			for _, w := range []string{one, "a" + one, one + "a", "aa" + one + "aa", one + one, strings.Repeat("a", 600) + one} {
				if i, e := m.Element(w); i != 0 || e != api.ErrLetter {
					t.Errorf("%d letters: Element(%q): %d, %d", k, w, i, e)
				}
			}
		}
		// Runes whose last bits, or whose pieces, are those of letters.
		for _, w := range []string{"ä", "aä", "š", "\u0161", "\U00010061", "\xff", "a\xe1", "\xc1\xa1", "A", " a", "a ", "a\x00", "é"} {
			if i, e := m.Element(w); i != 0 || e != api.ErrLetter {
				t.Errorf("%d letters: Element(%q): %d, %d", k, w, i, e)
			}
		}
		for l := range k {
			sign := byte('a' + l)
			_, e1 := m.Right(0, sign)
			_, e2 := m.Left(0, sign)
			_, e3 := m.Element(string(rune(sign)))
			if e1 != api.OK || e2 != api.OK || e3 != api.OK {
				t.Errorf("%d letters: %c: %d, %d, %d", k, sign, e1, e2, e3)
			}
		}
	}
}

// isNothing holds a monoid to the answers of one that is none: its error comes ahead of all others.
func isNothing(t *testing.T, m *monoid.Monoid) {
	t.Helper()
	var should answers
	for at := range should.errors {
		should.errors[at] = api.ErrArg
	}
	for _, i := range []int{0, 1, -1, 5, 512, math.MinInt, math.MaxInt} {
		for _, w := range []string{"", "a", "zz", "\xff"} {
			for _, letter := range []byte{'a', 'z', 0, 255} {
				for _, n := range []uint64{0, 1, math.MaxUint64} {
					if got := everyAnswer(m, w, i, -i, letter, n); got != should {
						t.Fatalf("no monoid: %d, %q, %d: %+v", i, w, letter, got)
					}
				}
			}
		}
	}
	if a := m.Auto(); m.Len() != 0 || m.Letters() != 0 || a.Letters != 0 || len(a.Next) != 0 || len(a.Accept) != 0 {
		t.Errorf("no monoid: Len %d, Letters %d, Auto %s", m.Len(), m.Letters(), brief(a))
	}
	if z, is := m.Zero(); z != 0 || is {
		t.Errorf("no monoid: Zero: %d, %v", z, is)
	}
	if left, right := m.Rules(); len(left) != 0 || len(right) != 0 {
		t.Errorf("no monoid: Rules: %q, %q", left, right)
	}
}

func TestP14_3NoMonoid(t *testing.T) {
	isNothing(t, nil)
	isNothing(t, &monoid.Monoid{})
	isNothing(t, new(monoid.Monoid))
	var zero monoid.Monoid
	isNothing(t, &zero)
}

// TestP14_3ACopyIsNoMonoid: Build did not make it, and the monoid stays what it is.
func TestP14_3ACopyIsNoMonoid(t *testing.T) {
	m := built(t, pairs())
	before := portrait(m)
	other := *m
	isNothing(t, &other)
	if portrait(m) != before {
		t.Errorf("a copy was made, and the monoid has other answers")
	}
}

// TestP1EveryInputEndsWithoutPanic: any numbers, letters and words; each call answers its error alone, in their order.
func TestP1EveryInputEndsWithoutPanic(t *testing.T) {
	d := dice(7)
	met := map[api.Errno]int{}
	all := samples()
	var monoids []*monoid.Monoid
	for _, s := range all {
		monoids = append(monoids, built(t, s.a))
	}
	for range 30000 {
		at := d.below(len(all))
		m, k := monoids[at], all[at].a.Letters
		i, j := d.below(m.Len()+3)-1, d.below(m.Len()+3)-1
		if d.below(50) == 0 {
			i = noElements(m.Len())[d.below(14)]
		}
		letter := byte('a' + d.below(k+1))
		if d.below(20) == 0 {
			letter = byte(d.roll())
		}
		w := d.word(min(k+1, 8), d.below(6))
		if d.below(20) == 0 {
			w += string([]byte{byte(d.roll())})
		}
		got := everyAnswer(m, w, i, j, letter, d.roll()>>d.below(64))
		if got.errors != shouldBe(m.Len(), k, w, i, j, letter) || got != got.onlyErrors() {
			t.Fatalf("%s: %d, %d, %q, %q: %+v", all[at].name, i, j, letter, w, got)
		}
		for _, e := range got.errors {
			met[e]++
		}
	}
	for _, e := range []api.Errno{api.OK, api.ErrRange, api.ErrLetter} {
		if met[e] < 3000 {
			t.Errorf("of the calls %v", met)
		}
	}
}

func TestP1NoListIsTheEmptyList(t *testing.T) {
	for k := -1; k <= 9; k++ {
		refused(t, "no lists", api.Auto{Letters: k}, api.ErrAuto)
		refused(t, "empty lists", api.Auto{Letters: k, Next: []int{}, Accept: []bool{}}, api.ErrAuto)
	}
}

// TestP1BuildOfAnythingEnds: lists of any numbers; what is built has an automaton's shape.
func TestP1BuildOfAnythingEnds(t *testing.T) {
	d := dice(3)
	met := map[api.Errno]int{}
	for range 20000 {
		k, n := d.below(10), d.below(4)
		a := api.Auto{Letters: k, Accept: make([]bool, n)}
		for range k * n {
			a.Next = append(a.Next, d.below(max(n, 1)))
		}
		if d.below(3) == 0 {
			a.Next = append(a.Next, d.below(5)-2)
			a.Next = a.Next[d.below(2):]
		}
		is := k >= 1 && k <= 8 && n >= 1 && len(a.Next) == n*k && slices.Min(a.Next) >= 0 && slices.Max(a.Next) < n
		m, e := monoid.Build(a)
		met[e]++
		if (e == api.OK) != is || (m != nil) != is || (!is && e != api.ErrAuto) {
			t.Fatalf("Build of %s: %v, %d", brief(a), m != nil, e)
		}
	}
	if met[api.OK] < 3000 || met[api.ErrAuto] < 3000 {
		t.Errorf("of the calls %v", met)
	}
}
