package equal_test

import (
	"testing"

	"eggbox/api"
	"eggbox/auto"
	"eggbox/equal"
	"eggbox/minim"
	"eggbox/word"
)

// manyPairs are the samples, and all pairs of small automata.
func manyPairs() [][2]api.Auto {
	out := samples()
	for _, all := range [][]api.Auto{append(everyAuto(1, 2), everyAuto(1, 3)[:100]...), append(everyAuto(2, 1), everyAuto(2, 2)...)} {
		for _, a := range all {
			for _, b := range all {
				out = append(out, [2]api.Auto{a, b})
			}
		}
	}
	return out
}

// lesser is the lesser one of two words, where each may not be there.
func lesser(k int, u string, isU bool, v string, isV bool) (string, bool) {
	if order, _ := word.Compare(k, u, v); isV && (!isU || order > 0) {
		return v, true
	}
	return u, isU
}

func TestP12_3Together(t *testing.T) {
	for _, p := range manyPairs() {
		a, b := p[0], p[1]
		equals, _ := equal.Equal(a, b)
		in, _ := equal.Inside(a, b)
		back, _ := equal.Inside(b, a)
		w, found, _ := equal.Differ(a, b)
		u, leaves, _ := equal.Escape(a, b)
		v, returns, _ := equal.Escape(b, a)
		if equals != (in && back) || equals == found || in == leaves || back == returns {
			t.Errorf("%s and %s: Equal %v, Inside %v and %v, Differ %v, Escape %v and %v", brief(a), brief(b), equals, in, back, found, leaves, returns)
		}
		if should, is := lesser(a.Letters, u, leaves, v, returns); w != should || found != is {
			t.Errorf("%s and %s: Differ %q, Escape %q and %q", brief(a), brief(b), w, u, v)
		}
	}
}

// TestP12_3TheWordsShowIt: what is found is of the languages that it should be of.
func TestP12_3TheWordsShowIt(t *testing.T) {
	for _, p := range manyPairs() {
		for _, s := range searches() {
			if w, found, e := s.call(p[0], p[1]); e != api.OK || !found && w != "" || found && !s.shows(takes(p[0], w), takes(p[1], w)) {
				t.Errorf("%s of %s and %s is %q, %v, %d", s.name, brief(p[0]), brief(p[1]), w, found, e)
			}
		}
	}
}

func TestP12_4Length(t *testing.T) {
	for _, p := range manyPairs() {
		n, m := len(p[0].Accept), len(p[1].Accept)
		for _, s := range searches() {
			longest := n*m - 1
			if s.name == differ.name {
				longest = n + m - 2
			}
			if w, _, _ := s.call(p[0], p[1]); len(w) > longest {
				t.Errorf("%s of %s and %s has %d letters", s.name, brief(p[0]), brief(p[1]), len(w))
			}
		}
	}
}

// alike are automata of one number of letters, some of one language.
func alike() [][]api.Auto {
	d := dice(2)
	var out [][]api.Auto
	for k := 1; k <= 8; k++ {
		row := []api.Auto{whole(k), nothing(k)}
		for range 7 {
			a := d.thrown(k, 1+d.below(4), 2)
			b := d.thrown(k, 1+d.below(4), 2)
			both, _ := auto.Both(a, b)
			either, _ := auto.Either(a, b)
			row = append(row, a, both, either, d.blown(a, 9), d.blown(both, 20))
		}
		out = append(out, row)
	}
	return append(out, everyAuto(1, 2), everyAuto(2, 2))
}

// table is what a verdict says of each two.
func table(t *testing.T, v verdict, row []api.Auto) [][]bool {
	out := make([][]bool, len(row))
	for i, a := range row {
		for _, b := range row {
			is, e := v.call(a, b)
			if e != api.OK {
				t.Fatalf("%s of %s and %s: %d", v.name, brief(a), brief(b), e)
			}
			out[i] = append(out[i], is)
		}
	}
	return out
}

// TestP12_5EquivalenceAndOrder: each one is equal to itself and inside itself; Equal goes both ways; what holds of two and on from the second holds of the first; and those that are inside one another are equal.
func TestP12_5EquivalenceAndOrder(t *testing.T) {
	for _, row := range alike() {
		equals, inside := table(t, isEqual, row), table(t, isInside, row)
		for i := range row {
			if !equals[i][i] || !inside[i][i] {
				t.Errorf("%s and itself: Equal %v, Inside %v", brief(row[i]), equals[i][i], inside[i][i])
			}
			for j := range row {
				if equals[i][j] != equals[j][i] || equals[i][j] != (inside[i][j] && inside[j][i]) {
					t.Errorf("%s and %s: Equal %v and %v, Inside %v and %v", brief(row[i]), brief(row[j]), equals[i][j], equals[j][i], inside[i][j], inside[j][i])
				}
				for l := range row {
					if equals[i][j] && equals[j][l] && !equals[i][l] || inside[i][j] && inside[j][l] && !inside[i][l] {
						t.Errorf("%s, %s and %s: not from the first to the last", brief(row[i]), brief(row[j]), brief(row[l]))
					}
				}
			}
		}
	}
}

func TestP12_5Not(t *testing.T) {
	for _, p := range manyPairs() {
		a, b := p[0], p[1]
		notA, _ := auto.Not(a)
		notB, _ := auto.Not(b)
		w, found, _ := equal.Escape(a, b)
		meet.finds(t, a, notB, w, found)
		meet.finds(t, notB, a, w, found)
		escape.finds(t, notB, notA, w, found)
		w, found, _ = equal.Differ(a, b)
		differ.finds(t, notA, notB, w, found)
		differ.finds(t, b, a, w, found)
		is, _ := equal.Inside(a, b)
		isInside.says(t, notB, notA, is)
	}
}

// TestP12_5Products: what Both, Either and But make stands to the two as their names say, and their least words are those that are found here.
func TestP12_5Products(t *testing.T) {
	for _, p := range samples() {
		a, b := p[0], p[1]
		both, _ := auto.Both(a, b)
		either, _ := auto.Either(a, b)
		but, _ := auto.But(a, b)
		isInside.says(t, both, a, true)
		isInside.says(t, both, b, true)
		isInside.says(t, a, either, true)
		isInside.says(t, b, either, true)
		isInside.says(t, but, a, true)
		meet.finds(t, but, b, "", false)
		w, found, _ := auto.Least(both)
		meet.finds(t, a, b, w, found)
		w, found, _ = auto.Least(but)
		escape.finds(t, a, b, w, found)
	}
}

func TestP12_6Minimal(t *testing.T) {
	met := map[bool]int{}
	for _, p := range manyPairs() {
		first, _, _ := minim.Minimal(p[0])
		second, _, _ := minim.Minimal(p[1])
		is := same(first, second)
		isEqual.says(t, p[0], p[1], is)
		isEqual.says(t, first, p[0], true)
		isEqual.says(t, p[1], second, true)
		isEqual.says(t, first, second, is)
		met[is]++
	}
	if met[true] < 500 || met[false] < 500 {
		t.Errorf("of the pairs %d are equal, %d are not", met[true], met[false])
	}
}
