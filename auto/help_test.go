package auto_test

import (
	"slices"
	"strconv"
	"testing"

	"eggbox/api"
	"eggbox/auto"
)

// made is the automaton of these letters, ways and accepted states.
func made(k int, next []int, accept ...bool) api.Auto {
	return api.Auto{Letters: k, Next: next, Accept: accept}
}

// bStar is the chapter's A: it accepts b*.
func bStar() api.Auto { return made(2, []int{1, 0, 1, 1}, true, false) }

// whole and nothing accept all words over k letters, and none.
func whole(k int) api.Auto { return made(k, make([]int, k), true) }

func nothing(k int) api.Auto { return made(k, make([]int, k), false) }

// lasso is the automaton of one letter that leads through tail states into a ring of so many.
func lasso(tail, ring int, accepted ...int) api.Auto {
	n := tail + ring
	out := api.Auto{Letters: 1, Next: make([]int, n), Accept: make([]bool, n)}
	for s := range n - 1 {
		out.Next[s] = s + 1
	}
	out.Next[n-1] = tail
	for _, s := range accepted {
		out.Accept[s] = true
	}
	return out
}

// beside is a with the states of b behind its own, which are not met.
func beside(a, b api.Auto) api.Auto {
	out := clone(a)
	for _, s := range b.Next {
		out.Next = append(out.Next, s+len(a.Accept))
	}
	out.Accept = append(out.Accept, b.Accept...)
	return out
}

func clone(a api.Auto) api.Auto {
	return api.Auto{Letters: a.Letters, Next: slices.Clone(a.Next), Accept: slices.Clone(a.Accept)}
}

func same(a, b api.Auto) bool {
	return a.Letters == b.Letters && slices.Equal(a.Next, b.Next) && slices.Equal(a.Accept, b.Accept)
}

// isZero: is it what stands beside an error?
func isZero(a api.Auto) bool { return a.Letters == 0 && len(a.Next) == 0 && len(a.Accept) == 0 }

// brief is an automaton as a message may show it.
func brief(a api.Auto) string {
	if n := len(a.Accept); n > 12 {
		return strconv.Itoa(a.Letters) + " letters, " + strconv.Itoa(n) + " states"
	}
	out := strconv.Itoa(a.Letters) + " ["
	for _, s := range a.Next {
		out += " " + strconv.Itoa(s)
	}
	out += " ] "
	for _, is := range a.Accept {
		out += map[bool]string{true: "+", false: "-"}[is]
	}
	return out
}

// short is a word as a message may show it.
func short(w string) string {
	if len(w) > 20 {
		return w[:20] + ".."
	}
	return w
}

// gives holds a call's answer to an automaton and OK.
func gives(t *testing.T, call string, got api.Auto, e api.Errno, should api.Auto) {
	t.Helper()
	if e != api.OK || !same(got, should) {
		t.Errorf("%s is %s, %d; should be %s", call, brief(got), e, brief(should))
	}
}

// refused holds a call's answer to an error, with nothing beside it.
func refused(t *testing.T, call string, got api.Auto, e, should api.Errno) {
	t.Helper()
	if e != should || !isZero(got) {
		t.Errorf("%s is %s, %d; should be refused by %d", call, brief(got), e, should)
	}
}

// has holds a call's answer to so many states and OK.
func has(t *testing.T, call string, got api.Auto, e api.Errno, states int) {
	t.Helper()
	if e != api.OK || len(got.Accept) != states || auto.Check(got) != api.OK {
		t.Errorf("%s has %d states, %d; should have %d", call, len(got.Accept), e, states)
	}
}

// one and two are calls that make an automaton of one, and of two of them.
type one struct {
	name string
	call func(a api.Auto) (api.Auto, api.Errno)
}

type two struct {
	name string
	call func(a, b api.Auto) (api.Auto, api.Errno)
}

func ones() []one {
	out := []one{{"Reach", auto.Reach}, {"Not", auto.Not}, {"Reverse", auto.Reverse}, {"Star", auto.Star}}
	for _, w := range []string{"", "a", "aa", "aaaaa"} {
		out = append(out,
			one{"Ahead " + w, func(a api.Auto) (api.Auto, api.Errno) { return auto.Ahead(a, w) }},
			one{"Behind " + w, func(a api.Auto) (api.Auto, api.Errno) { return auto.Behind(a, w) }})
	}
	return out
}

func twos() []two {
	return []two{{"Both", auto.Both}, {"Either", auto.Either}, {"But", auto.But}, {"Concat", auto.Concat}}
}

// dice answers numbers that look thrown and are the same at each run.
type dice uint64

func (d *dice) below(n int) int {
	x := uint64(*d)
	x ^= x << 13
	x ^= x >> 7
	x ^= x << 17
	*d = dice(x)
	return int(x >> 11 % uint64(n))
}

// thrown is an automaton of k letters and n states, where about one state of so many is accepted.
func (d *dice) thrown(k, n, one int) api.Auto {
	out := api.Auto{Letters: k}
	for range n {
		for range k {
			out.Next = append(out.Next, d.below(n))
		}
		out.Accept = append(out.Accept, d.below(one) == 0)
	}
	return out
}

// word is a word of that many letters, of the first k.
func (d *dice) word(k, letters int) string {
	out := make([]byte, letters)
	for i := range out {
		out[i] = 'a' + byte(d.below(k))
	}
	return string(out)
}

// everyAuto is each automaton of k letters and n states.
func everyAuto(k, n int) []api.Auto {
	var out []api.Auto
	now := api.Auto{Letters: k, Next: make([]int, n*k), Accept: make([]bool, n)}
	for {
		out = append(out, clone(now))
		if !nextAuto(now, n) {
			return out
		}
	}
}

// nextAuto counts on, the first places first; false, once all have been.
func nextAuto(a api.Auto, n int) bool {
	for i := range a.Accept {
		a.Accept[i] = !a.Accept[i]
		if a.Accept[i] {
			return true
		}
	}
	for i := range a.Next {
		a.Next[i]++
		if a.Next[i] < n {
			return true
		}
		a.Next[i] = 0
	}
	return false
}

// small are all automata of few letters and states.
func small() []api.Auto {
	return slices.Concat(everyAuto(1, 1), everyAuto(1, 2), everyAuto(1, 3), everyAuto(2, 1), everyAuto(2, 2), everyAuto(3, 1), everyAuto(3, 2))
}

// great are thrown automata of all letters, some with states that are not met; the sets of their states are still not too many to be held one by one against the definition.
func great() []api.Auto {
	d := dice(88172645463325252)
	var out []api.Auto
	for k := 1; k <= 8; k++ {
		for n := 1; n <= 7; n++ {
			out = append(out, d.thrown(k, n, 2), d.thrown(k, n, 4), beside(d.thrown(k, n, 3), d.thrown(k, 1+n/2, 2)))
		}
	}
	out = append(out, lasso(0, 5, 0), lasso(3, 4, 1, 5), lasso(2, 60, 7), lasso(60, 7, 0, 66), beside(lasso(1, 3, 0), lasso(2, 5, 4)))
	for n := 63; n < 260; n += 13 {
		out = append(out, d.thrown(1, n, 5))
	}
	return append(out, everyAuto(2, 3)[:400]...)
}

func samples() []api.Auto { return append(small(), great()...) }

// samplePairs are automata of the same letters, two by two.
func samplePairs() [][2]api.Auto {
	var out [][2]api.Auto
	for _, all := range [][]api.Auto{append(everyAuto(1, 1), everyAuto(1, 2)...), append(everyAuto(2, 1), everyAuto(2, 2)...)} {
		for _, a := range all {
			for _, b := range all {
				out = append(out, [2]api.Auto{a, b})
			}
		}
	}
	d := dice(5)
	for k := 1; k <= 8; k++ {
		for n := 1; n <= 6; n++ {
			for range 3 {
				out = append(out, [2]api.Auto{d.thrown(k, n, 2), d.thrown(k, 1+d.below(6), 3)}, [2]api.Auto{d.thrown(k, 1+d.below(5), 3), beside(d.thrown(k, n, 2), d.thrown(k, 2, 2))})
			}
		}
	}
	for n := 63; n < 260; n += 13 {
		out = append(out, [2]api.Auto{d.thrown(1, n, 5), d.thrown(1, 260-n/2, 5)})
	}
	return append(out, [2]api.Auto{lasso(2, 9, 4), lasso(1, 7, 3)}, [2]api.Auto{lasso(0, 15, 0), lasso(60, 6, 62)})
}

// words are all words over k letters of at most n letters, the shorter ones first, those of one length by their letters.
func words(k, n int) []string {
	out := []string{""}
	for at := 0; len(out[at]) < n; at++ {
		for l := range k {
			out = append(out, out[at]+string(rune('a'+l)))
		}
	}
	return out
}

// someWords are the words over k letters up to a length at which they are not yet too many.
func someWords(k int) []string {
	return words(k, [...]int{0, 12, 7, 4, 4, 3, 3, 3, 3}[k])
}
