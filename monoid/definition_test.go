package monoid_test

import (
	"math"
	"slices"
	"testing"

	"eggbox/api"
	"eggbox/monoid"
)

func TestP14_3Examples(t *testing.T) {
	m := built(t, pairs())
	for i, should := range []string{"", "a", "b", "aa", "ab", "ba"} {
		if w, e := m.Word(i); w != should || e != api.OK {
			t.Errorf("Word(%d): %q, %d", i, w, e)
		}
		if is, e := m.Accept(i); is != (i == 0 || i == 4) || e != api.OK {
			t.Errorf("Accept(%d): %v, %d", i, is, e)
		}
	}
	for _, c := range []struct {
		what   string
		got    func() (int, api.Errno)
		should int
		e      api.Errno
	}{
		{"Element(bb)", func() (int, api.Errno) { return m.Element("bb") }, 3, api.OK},
		{"Element(c)", func() (int, api.Errno) { return m.Element("c") }, 0, api.ErrLetter},
		{"Product(1, 2)", func() (int, api.Errno) { return m.Product(1, 2) }, 4, api.OK},
		{"Product(4, 1)", func() (int, api.Errno) { return m.Product(4, 1) }, 1, api.OK},
		{"Right(3, a)", func() (int, api.Errno) { return m.Right(3, 'a') }, 3, api.OK},
		{"Left(1, b)", func() (int, api.Errno) { return m.Left(1, 'b') }, 5, api.OK},
		{"Power(4, 9)", func() (int, api.Errno) { return m.Power(4, 9) }, 4, api.OK},
		{"Power(1, 0)", func() (int, api.Errno) { return m.Power(1, 0) }, 0, api.OK},
	} {
		if got, e := c.got(); got != c.should || e != c.e {
			t.Errorf("%s: %d, %d; should be %d, %d", c.what, got, e, c.should, c.e)
		}
	}
	if w, e := m.Word(6); w != "" || e != api.ErrRange {
		t.Errorf("Word(6): %q, %d", w, e)
	}
}

// elementsAre holds each element's word, transformation and verdict to the model's.
func elementsAre(t *testing.T, m *monoid.Monoid, x *model) {
	t.Helper()
	if m.Len() != len(x.words) {
		t.Fatalf("%s: Len %d, should be %d", brief(x.a), m.Len(), len(x.words))
	}
	for i, w := range x.words {
		if got, e := m.Word(i); got != w || e != api.OK {
			t.Fatalf("%s: Word(%d): %q, %d; should be %q", brief(x.a), i, got, e, w)
		}
		if got, e := m.Trans(i); got != packed(leads(x.a, w)) || e != api.OK {
			t.Fatalf("%s: Trans(%d): %v, %d; should be %v", brief(x.a), i, got, e, leads(x.a, w))
		}
		if got, e := m.Accept(i); got != accepts(x.a, w) || e != api.OK {
			t.Fatalf("%s: Accept(%d): %v, %d", brief(x.a), i, got, e)
		}
	}
}

// elementOf holds Element to the model's, and Accept of it to the word's own verdict.
func elementOf(t *testing.T, m *monoid.Monoid, x *model, w string) {
	t.Helper()
	got, e := m.Element(w)
	if got != x.element(w) || e != api.OK {
		t.Fatalf("%s: Element(%q): %d, %d; should be %d", brief(x.a), w, got, e, x.element(w))
	}
	if is, e := m.Accept(got); is != accepts(x.a, w) || e != api.OK {
		t.Fatalf("%s: Accept of the element of %q: %v, %d", brief(x.a), w, is, e)
	}
}

// timesLetters holds Right and Left of an element to the model's.
func timesLetters(t *testing.T, m *monoid.Monoid, x *model, i int) {
	t.Helper()
	for l := range x.a.Letters {
		sign := byte('a' + l)
		if got, e := m.Right(i, sign); got != x.element(x.words[i]+string(rune(sign))) || e != api.OK {
			t.Fatalf("%s: Right(%d, %c): %d, %d", brief(x.a), i, sign, got, e)
		}
		if got, e := m.Left(i, sign); got != x.element(string(rune(sign))+x.words[i]) || e != api.OK {
			t.Fatalf("%s: Left(%d, %c): %d, %d", brief(x.a), i, sign, got, e)
		}
	}
}

// productIs holds Product to the model's.
func productIs(t *testing.T, m *monoid.Monoid, x *model, i, j int) {
	t.Helper()
	if got, e := m.Product(i, j); got != x.product(i, j) || e != api.OK {
		t.Fatalf("%s: Product(%d, %d): %d, %d; should be %d", brief(x.a), i, j, got, e, x.product(i, j))
	}
}

// TestP14_3WordByWord: small automata, against all words.
func TestP14_3WordByWord(t *testing.T) {
	for _, a := range smallOnes() {
		x, is := byAllWords(a)
		if !is {
			t.Fatalf("%s: too many words", brief(a))
		}
		m := built(t, a)
		elementsAre(t, m, x)
		for _, w := range every(a.Letters, x.longest()+1) {
			elementOf(t, m, x, w)
		}
		for i := range x.words {
			timesLetters(t, m, x, i)
			for j := range x.words {
				productIs(t, m, x, i, j)
			}
		}
	}
}

// TestP14_3GreatOnes: samples of all sizes, against the words whose beginnings are least words.
func TestP14_3GreatOnes(t *testing.T) {
	d := dice(143)
	for _, s := range samples() {
		x, _ := byBeginnings(s.a)
		m := built(t, s.a)
		elementsAre(t, m, x)
		for _, w := range d.words(s.a.Letters) {
			elementOf(t, m, x, w)
		}
		for range 60 {
			i, j := d.below(m.Len()), d.below(m.Len())
			timesLetters(t, m, x, i)
			productIs(t, m, x, i, j)
		}
		productIs(t, m, x, m.Len()-1, m.Len()-1)
		productIs(t, m, x, 0, m.Len()-1)
		productIs(t, m, x, m.Len()-1, 0)
	}
}

// TestP14_3LongWords: far longer than the least words.
func TestP14_3LongWords(t *testing.T) {
	d := dice(1 << 20)
	for _, s := range samples() {
		m := built(t, s.a)
		w := d.word(s.a.Letters, 20000)
		i, e := m.Element(w)
		if got, e2 := m.Trans(i); got != packed(leads(s.a, w)) || e != api.OK || e2 != api.OK {
			t.Errorf("%s: Element of a word of 20000 letters: %d, %d", s.name, i, e)
		}
	}
}

// TestP14_3Power: the first powers by the word written so often.
func TestP14_3Power(t *testing.T) {
	for _, a := range smallOnes() {
		x, _ := byAllWords(a)
		m := built(t, a)
		for i := range x.words {
			for n := range 9 {
				if got, e := m.Power(i, uint64(n)); got != x.power(i, n) || e != api.OK {
					t.Fatalf("%s: Power(%d, %d): %d, %d; should be %d", brief(a), i, n, got, e, x.power(i, n))
				}
			}
		}
	}
}

// far is the element of a huge power: powers are counted until one comes again, then rounds are left out.
func (m *model) far(i int, n uint64) int {
	at := map[int]uint64{}
	var list []int
	for p := 0; ; p = m.product(p, i) {
		if first, there := at[p]; there {
			round := uint64(len(list)) - first
			if n >= first {
				n = first + (n-first)%round
			}
			return list[n]
		}
		at[p] = uint64(len(list))
		list = append(list, p)
	}
}

// TestP14_3HugePowers: 0, 1, 2^64 - 1 and what lies between.
func TestP14_3HugePowers(t *testing.T) {
	d := dice(1 << 40)
	for _, s := range samples() {
		x, _ := byBeginnings(s.a)
		m := built(t, s.a)
		for _, i := range []int{0, 1, 2, 3, m.Len() - 1, d.below(m.Len())} {
			if i >= m.Len() {
				continue
			}
			for _, n := range []uint64{0, 1, 2, 3, 63, 64, 511, 512, 513, 1 << 32, 1<<32 + 1, 1 << 63, 1<<63 - 1, math.MaxUint64 - 1, math.MaxUint64, d.roll(), d.roll()} {
				if got, e := m.Power(i, n); got != x.far(i, n) || e != api.OK {
					t.Errorf("%s: Power(%d, %d): %d, %d; should be %d", s.name, i, n, got, e, x.far(i, n))
				}
			}
		}
	}
	// What 2^64 - 1 leaves when rounds are taken away.
	for _, c := range []struct{ ring, should int }{{2, 1}, {3, 0}, {4, 3}, {5, 0}, {7, 1}, {64, 63}} {
		m := built(t, beside(1, part{0, 0, c.ring}))
		if got, e := m.Power(1, math.MaxUint64); got != c.should || e != api.OK {
			t.Errorf("a ring of %d: Power(1, 2^64 - 1): %d, %d; should be %d", c.ring, got, e, c.should)
		}
	}
}

func TestP14_4Examples(t *testing.T) {
	if z, is := built(t, pairs()).Zero(); z != 3 || !is {
		t.Errorf("Zero of the chapter's monoid: %d, %v", z, is)
	}
}

func TestP14_4ByDefinition(t *testing.T) {
	met := map[bool]int{}
	for _, a := range smallOnes() {
		x, _ := byAllWords(a)
		should, is := x.zero()
		met[is]++
		if z, found := built(t, a).Zero(); z != should || found != is {
			t.Fatalf("%s: Zero: %d, %v; should be %d, %v", brief(a), z, found, should, is)
		}
	}
	if met[true] < 100 || met[false] < 100 {
		t.Errorf("%d have a zero, %d have none", met[true], met[false])
	}
}

// TestP14_4Edges: the only element, the last one, none, and elements that are zeros on one side alone.
func TestP14_4Edges(t *testing.T) {
	for k := 1; k <= 8; k++ {
		for _, c := range []struct {
			a  api.Auto
			z  int
			is bool
		}{
			{still(k, 1), 0, true}, {still(k, 64), 0, true},
			{lastLetter(k, 64), 1, true}, {firstLetter(k), 1, true},
			{beside(k, part{-1, 63, 1}), 63, true}, {beside(k, part{-1, 0, 2}), 0, false}, {beside(k, part{-1, 5, 2}), 0, false},
		} {
			// With two letters or more the first or the last letter alone tells: none of the two takes in the other on both sides.
			if k > 1 && c.z == 1 {
				c.z, c.is = 0, false
			}
			if z, is := built(t, c.a).Zero(); z != c.z || is != c.is {
				t.Errorf("%s: Zero: %d, %v; should be %d, %v", brief(c.a), z, is, c.z, c.is)
			}
		}
	}
	for _, s := range samples() {
		m := built(t, s.a)
		z, is := m.Zero()
		for i := range m.Len() {
			behind, _ := m.Product(z, i)
			ahead, _ := m.Product(i, z)
			if is && (behind != z || ahead != z) {
				t.Fatalf("%s: Zero is %d, which %d changes", s.name, z, i)
			}
		}
	}
}

// TestP14_4Great: 512 elements, with a zero and without one.
func TestP14_4Great(t *testing.T) {
	for _, c := range []struct {
		name string
		z    int
		is   bool
	}{{"8 letters, 512 with a zero", 511, true}, {"8 letters, a semilattice", 255, true}, {"8 letters, a group of 512", 0, false}, {"512 powers", 0, false}, {"all maps of 4", 0, false}} {
		at := slices.IndexFunc(samples(), func(s sample) bool { return s.name == c.name })
		if z, is := built(t, samples()[at].a).Zero(); z != c.z || is != c.is {
			t.Errorf("%s: Zero: %d, %v; should be %d, %v", c.name, z, is, c.z, c.is)
		}
	}
}

func TestP14_5Examples(t *testing.T) {
	left, right := built(t, pairs()).Rules()
	if !slices.Equal(left, []string{"bb", "aaa", "aab", "aba", "baa", "bab"}) || !slices.Equal(right, []string{"aa", "aa", "aa", "a", "aa", "b"}) {
		t.Errorf("Rules of the chapter's monoid: %q, %q", left, right)
	}
}

// TestP14_5WordByWord: of all words, those that the chapter names.
func TestP14_5WordByWord(t *testing.T) {
	for _, a := range smallOnes() {
		x, _ := byAllWords(a)
		words := every(a.Letters, x.longest()+1)
		shouldLeft, shouldRight := x.rules(words)
		left, right := built(t, a).Rules()
		if !slices.Equal(left, shouldLeft) || !slices.Equal(right, shouldRight) {
			t.Fatalf("%s: Rules: %q, %q; should be %q, %q", brief(a), left, right, shouldLeft, shouldRight)
		}
	}
}

// TestP14_5GreatOnes: of all words that are a least word with a letter behind it.
func TestP14_5GreatOnes(t *testing.T) {
	for _, s := range samples() {
		x, _ := byBeginnings(s.a)
		var words []string
		for _, u := range x.words {
			for l := range s.a.Letters {
				words = append(words, u+string(rune('a'+l)))
			}
		}
		shouldLeft, shouldRight := x.rules(words)
		left, right := built(t, s.a).Rules()
		if !slices.Equal(left, shouldLeft) || !slices.Equal(right, shouldRight) {
			t.Errorf("%s: %d and %d rules, should be %d", s.name, len(left), len(right), len(shouldLeft))
		}
	}
}

// TestP14_5Edges: letters that do nothing, letters that do the same, powers.
func TestP14_5Edges(t *testing.T) {
	for k := 1; k <= 8; k++ {
		left, right := built(t, still(k, 1)).Rules()
		if !slices.Equal(left, allWords(k, 1)) || !slices.Equal(right, make([]string, k)) {
			t.Errorf("%d letters that do nothing: Rules: %q, %q", k, left, right)
		}
	}
	left, right := built(t, beside(3, part{-1, 0, 2})).Rules()
	if !slices.Equal(left, []string{"b", "c", "aa"}) || !slices.Equal(right, []string{"a", "a", ""}) {
		t.Errorf("letters that do the same: Rules: %q, %q", left, right)
	}
	left, right = built(t, powers(8)).Rules()
	if len(left) != 1 || len(right) != 1 || len(left[0]) != 512 || right[0] != "aaaaaaaa" {
		t.Errorf("512 powers: Rules: %q, %q", left, right)
	}
}
