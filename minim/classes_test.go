package minim_test

import (
	"math"
	"slices"
	"strconv"
	"testing"

	"eggbox/api"
	"eggbox/minim"
)

func TestP10_1Examples(t *testing.T) {
	got, e := minim.Classes(odd())
	lists(t, "Classes(A)", got, e, []int{0, 1, 0, 1})
	got, e = minim.Level(odd(), 0)
	lists(t, "Level(A, 0)", got, e, []int{0, 1, 0, 1})
	if got, e := minim.Level(odd(), -1); len(got) != 0 || e != api.ErrRange {
		t.Errorf("Level(A, -1) is %s, %d", shortList(got), e)
	}
	got, e = minim.Classes(apartOne())
	lists(t, "Classes(B)", got, e, []int{0, 1})
}

// TestP10_1Classes: also of states that are not met, and none of which is the least one by chance.
func TestP10_1Classes(t *testing.T) {
	for _, a := range samples() {
		got, e := minim.Classes(a)
		lists(t, "Classes of "+brief(a), got, e, levelBy(lengths(a), never))
	}
}

func TestP10_1Level(t *testing.T) {
	for _, a := range samples() {
		far := lengths(a)
		for n := range len(a.Accept) + 2 {
			got, e := minim.Level(a, n)
			lists(t, "Level "+strconv.Itoa(n)+" of "+brief(a), got, e, levelBy(far, n))
		}
	}
}

// TestP10_1LevelByWords: the words of at most n letters, each of them asked from each state.
func TestP10_1LevelByWords(t *testing.T) {
	for _, a := range samples() {
		for n := range fewWords(a.Letters) + 1 {
			got, e := minim.Level(a, n)
			lists(t, "Level "+strconv.Itoa(n)+" of "+brief(a), got, e, plainLevel(a, n))
		}
	}
}

// TestP10_1OneLetterParts: of eight letters each one alone may tell two states apart.
func TestP10_1OneLetterParts(t *testing.T) {
	for l := range 8 {
		a := still(8, 3)
		a.Accept[0] = true
		a.Next[2*8+l] = 0
		got, e := minim.Level(a, 0)
		lists(t, "Level 0 of "+brief(a), got, e, []int{0, 1, 1})
		got, e = minim.Level(a, 1)
		lists(t, "Level 1 of "+brief(a), got, e, []int{0, 1, 2})
		got, e = minim.Classes(a)
		lists(t, "Classes of "+brief(a), got, e, []int{0, 1, 2})
	}
}

func TestP10_1LevelBelowZero(t *testing.T) {
	for _, a := range great() {
		for _, n := range []int{-1, -2, -4096, math.MinInt32, math.MinInt} {
			if got, e := minim.Level(a, n); len(got) != 0 || e != api.ErrRange {
				t.Errorf("Level %d of %s is %s, %d", n, brief(a), shortList(got), e)
			}
		}
	}
}

func TestP10_1FarBeyond(t *testing.T) {
	for _, a := range samples() {
		should := levelBy(lengths(a), never)
		for _, n := range []int{len(a.Accept), 1 << 20, math.MaxInt32, math.MaxInt - 1, math.MaxInt} {
			got, e := minim.Level(a, n)
			lists(t, "Level "+strconv.Itoa(n)+" of "+brief(a), got, e, should)
		}
	}
}

// parts: does each class of the finer list lie in one class of the other?
func parts(finer, other []int) bool {
	for s := range finer {
		if other[s] != other[finer[s]] {
			return false
		}
	}
	return len(finer) == len(other)
}

// TestP10_6LevelsPart: a level parts what the one ahead of it parts.
func TestP10_6LevelsPart(t *testing.T) {
	for _, a := range samples() {
		last, _ := minim.Level(a, 0)
		for n := range len(a.Accept) + 2 {
			now, e := minim.Level(a, n+1)
			if e != api.OK || !parts(now, last) {
				t.Fatalf("%s: level %d is %s, %d, the one ahead %s", brief(a), n+1, shortList(now), e, shortList(last))
			}
			last = now
		}
	}
}

// TestP10_6Settled: once two levels that follow one another are the same, all later ones are, and Classes.
func TestP10_6Settled(t *testing.T) {
	for _, a := range samples() {
		classes, _ := minim.Classes(a)
		last, _ := minim.Level(a, 0)
		settled := false
		for n := range len(a.Accept) + 2 {
			now, e := minim.Level(a, n+1)
			settled = settled || slices.Equal(now, last)
			if settled {
				lists(t, "Level "+strconv.Itoa(n+1)+" of "+brief(a), now, e, last)
				lists(t, "Classes of "+brief(a), classes, e, last)
			}
			last = now
		}
		if !settled {
			t.Errorf("the levels of %s never settle", brief(a))
		}
	}
}

// TestP10_6StatesLessTwo: from there on a level is Classes; of one state the level 0 is.
func TestP10_6StatesLessTwo(t *testing.T) {
	for _, a := range samples() {
		classes, _ := minim.Classes(a)
		from := max(0, len(a.Accept)-2)
		for _, n := range []int{from, from + 1, from + 2, 4094, math.MaxInt} {
			got, e := minim.Level(a, n)
			lists(t, "Level "+strconv.Itoa(n)+" of "+brief(a), got, e, classes)
		}
	}
}

// TestP10_6NoSooner: a chain has states that no level below the number of states less 2 parts.
func TestP10_6NoSooner(t *testing.T) {
	for _, n := range []int{3, 4, 17, 300} {
		for _, a := range []api.Auto{lasso(1, n-1, 1, n-1), lasso(8, 0, n, 0), backward(lasso(3, n-1, 1, n-1))} {
			classes, _ := minim.Classes(a)
			before, _ := minim.Level(a, n-3)
			at, _ := minim.Level(a, n-2)
			if slices.Equal(before, classes) || !slices.Equal(at, classes) || !slices.Equal(classes, numbers(n)) {
				t.Errorf("%s: level %d is %s, level %d is %s", brief(a), n-3, shortList(before), n-2, shortList(at))
			}
		}
	}
}
