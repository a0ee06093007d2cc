package match_test

import (
	"math"
	"slices"
	"testing"
	"unsafe"

	"eggbox/api"
	"eggbox/match"
)

// answers are what all calls answer of a list.
type answers struct {
	nullable, member bool
	ends             api.Set
	words            []string
	errors           [4]api.Errno
}

func everyAnswer(l []api.Node, w string, i, k, n int) answers {
	var out answers
	out.nullable, out.errors[0] = match.Nullable(l)
	out.member, out.errors[1] = match.Member(l, w)
	out.ends, out.errors[2] = match.Ends(l, w, i)
	out.words, out.errors[3] = match.Words(k, l, n)
	return out
}

func (a answers) same(b answers) bool {
	return a.nullable == b.nullable && a.member == b.member && a.ends == b.ends && a.errors == b.errors && slices.Equal(a.words, b.words)
}

// refuses holds the calls to these errors, and to nothing beside them.
func refuses(t *testing.T, l []api.Node, w string, i, k, n int, should [4]api.Errno) {
	t.Helper()
	got := everyAnswer(l, w, i, k, n)
	if got.errors != should {
		t.Errorf("%v, %d bytes, from %d on; k %d, n %d: errors %v, should be %v", brief(l), len(w), i, k, n, got.errors, should)
	}
	got.errors = [4]api.Errno{}
	if !got.same(answers{}) {
		t.Errorf("%v: something stands beside an error", brief(l))
	}
}

func everyErrno(e api.Errno) [4]api.Errno { return [4]api.Errno{e, e, e, e} }

// TestP6_2TheTreesErrorFirst: ahead of all that may be wrong with the word, the place and the numbers.
func TestP6_2TheTreesErrorFirst(t *testing.T) {
	for _, w := range []string{"", "ab", "x", times("a", 512), times("a", 512) + "i"} {
		for _, i := range []int{0, -1, len(w) + 1, math.MaxInt} {
			for _, l := range notTrees() {
				refuses(t, l, w, i, 2, 4, everyErrno(api.ErrTree))
				refuses(t, l, w, i, 0, -1, everyErrno(api.ErrTree))
				refuses(t, l, w, i, 2, 512, everyErrno(api.ErrTree))
				refuses(t, l, w, i, 8, 4, everyErrno(api.ErrTree))
			}
			for _, l := range tooGreat() {
				refuses(t, l, w, i, 2, 4, everyErrno(api.ErrSize))
				refuses(t, l, w, i, 9, 512, everyErrno(api.ErrSize))
				refuses(t, l, w, i, 2, -1, everyErrno(api.ErrSize))
			}
		}
	}
}

func TestP6_3SeveralErrors(t *testing.T) {
	p := not(star(dot)).list()
	long := times("a", 512)
	for _, x := range []struct {
		w            string
		i            int
		member, ends api.Errno
	}{
		{"x", 0, api.ErrLetter, api.ErrLetter}, {"x", -1, api.ErrLetter, api.ErrLetter}, {"x", 2, api.ErrLetter, api.ErrLetter}, {"abx", 7, api.ErrLetter, api.ErrLetter},
		{long, 0, api.ErrLong, api.ErrLong}, {long, -1, api.ErrLong, api.ErrLong}, {long, 513, api.ErrLong, api.ErrLong}, {long, 512, api.ErrLong, api.ErrLong},
		{long + "i", 0, api.ErrLetter, api.ErrLetter}, {long + "i", -1, api.ErrLetter, api.ErrLetter}, {"`" + long, 1, api.ErrLetter, api.ErrLetter},
		{"ab", 3, api.OK, api.ErrRange}, {"ab", -1, api.OK, api.ErrRange}, {"", 1, api.OK, api.ErrRange}, {"", -1, api.OK, api.ErrRange},
	} {
		refuses(t, p, x.w, x.i, 2, 512, [4]api.Errno{api.OK, x.member, x.ends, api.ErrRange})
	}
}

// TestP6_2GreatTrees: of 3999 and of 4000 nodes, of all shapes.
func TestP6_2GreatTrees(t *testing.T) {
	for _, p := range []plain{nested(a, 3998, api.Star), nested(a, 3999, api.Star), star(left(api.Union, 2000, a)), star(right(api.Inter, 2000, a)), left(api.Inter, 1333, star(a)), right(api.Union, 1333, star(a))} {
		for _, w := range []string{"", "a", "aaa", times("a", 511)} {
			is(t, p, w, true)
		}
		for _, w := range []string{"b", "ab", times("a", 510) + "b"} {
			is(t, p, w, false)
		}
	}
	for _, n := range []int{1998, 1999} {
		is(t, nested(a, 2*n, api.Not), "a", true)
		is(t, nested(a, 2*n+1, api.Not), "a", false)
		is(t, nested(a, 2*n, api.Not), "b", false)
		is(t, nested(a, 2*n+1, api.Not), "b", true)
	}
	for _, join := range []func(int, int, plain) plain{left, right} {
		row := join(api.Concat, 2000, a)
		is(t, row, times("a", 511), false)
		is(t, not(row), times("a", 511), true)
		is(t, star(row), "", true)
		is(t, not(star(join(api.Concat, 1999, a))), "", false)
		// A row of as many letters as the word has, with parts that derive the empty word behind them, or ahead.
		is(t, cat(join(api.Concat, 511, a), join(api.Concat, 900, star(b))), times("a", 511), true)
		is(t, cat(join(api.Concat, 900, star(b)), join(api.Concat, 511, a)), times("a", 511), true)
		is(t, cat(join(api.Concat, 900, star(b)), join(api.Concat, 512, a)), times("a", 511), false)
		ends(t, join(api.Concat, 1000, or(a, empty)), times("a", 511), 7, between(7, 511, 1))
		said(t, 2, join(api.Concat, 1333, star(a)), 8, words(1, 8))
		said(t, 1, not(join(api.Concat, 500, a)), 511, slices.DeleteFunc(words(1, 511), func(w string) bool { return len(w) == 500 }))
	}
}

func TestP1EveryListEndsWithoutPanic(t *testing.T) {
	d := dice(17)
	for length := range 60 {
		for range 40 {
			l := make([]api.Node, length)
			for i := range l {
				l[i] = api.Node{Kind: d.below(12) - 1}
				if l[i].Kind == api.Letter {
					l[i].Sign = 'a' + byte(d.below(9))
				}
			}
			everyAnswer(l, d.word(9, d.below(6)), d.below(9)-1, d.below(10), d.below(7)-1)
		}
	}
}

// someLists are trees and lists that are no trees.
func someLists() [][]api.Node {
	var out [][]api.Node
	for _, p := range append(everyTree(3, none, empty, dot, a, b), evens, not(evens), star(not(a)), right(api.Concat, 300, or(a, empty))) {
		out = append(out, p.list())
	}
	return append(out, notTrees()...)
}

func TestP1WhatIsHandedInIsNotChanged(t *testing.T) {
	for _, l := range someLists() {
		// Room behind the list, filled, so that a write there is seen.
		room := append(slices.Clone(l), slices.Repeat(list(letter('g')), 8)...)
		kept := slices.Clone(room)
		text := []byte("abab")
		everyAnswer(room[:len(l)], unsafe.String(&text[0], len(text)), 1, 2, 4)
		if !slices.Equal(room, kept) || string(text) != "abab" {
			t.Errorf("the list %v, the room behind it, or the word was changed", brief(l))
		}
	}
}

// TestP1AnswersAreNewMemory: writing over the words' list, and over the list that was handed in, changes no other answer.
func TestP1AnswersAreNewMemory(t *testing.T) {
	for _, l := range someLists() {
		l := slices.Clone(l)
		one := everyAnswer(l, "abab", 1, 2, 4)
		two := everyAnswer(l, "abab", 1, 2, 4)
		kept := slices.Clone(one.words)
		room := two.words[:cap(two.words)]
		for i := range room {
			room[i] = "spoilt"
		}
		for i := range l {
			l[i] = node(77)
		}
		if !slices.Equal(one.words, kept) {
			t.Errorf("%v: an answer is shared", brief(l))
		}
	}
}

// TestP1WordsShareNothing: no two words of an answer, or of two answers, lie in the same bytes.
func TestP1WordsShareNothing(t *testing.T) {
	one, _ := match.Words(1, star(a).list(), 511)
	two, _ := match.Words(1, star(a).list(), 511)
	type span struct{ from, to uintptr }
	var spans []span
	for _, w := range append(one, two...) {
		// Go keeps all words of one byte in one place.
		if len(w) > 1 {
			from := uintptr(unsafe.Pointer(unsafe.StringData(w)))
			spans = append(spans, span{from, from + uintptr(len(w))})
		}
	}
	slices.SortFunc(spans, func(x, y span) int {
		if x.from < y.from {
			return -1
		}
		return 1
	})
	for i := 1; i < len(spans); i++ {
		if spans[i].from < spans[i-1].to {
			t.Fatalf("two words share %d bytes", spans[i-1].to-spans[i].from)
		}
	}
	if len(spans) != 1020 {
		t.Errorf("%d words", len(spans))
	}
}

func TestP1TheSameAnswerAgain(t *testing.T) {
	some := someLists()
	for i, l := range some {
		one := everyAnswer(l, "abba", 1, 3, 3)
		everyAnswer(some[(i*7+3)%len(some)], times("ab", 40), 2, 2, 5)
		two := everyAnswer(l, "abba", 1, 3, 3)
		if !one.same(two) {
			t.Errorf("%v: another answer at the second time", brief(l))
		}
	}
}

// TestP1NilIsEmpty: both are no trees.
func TestP1NilIsEmpty(t *testing.T) {
	for _, l := range [][]api.Node{nil, {}, make([]api.Node, 0, 8)} {
		refuses(t, l, "a", 0, 2, 3, everyErrno(api.ErrTree))
	}
}
