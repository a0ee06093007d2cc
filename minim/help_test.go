package minim_test

import (
	"slices"
	"strconv"
	"strings"
	"testing"

	"eggbox/api"
)

// made is the automaton of these letters, ways and accepted states.
func made(k int, next []int, accept ...bool) api.Auto {
	return api.Auto{Letters: k, Next: next, Accept: accept}
}

// odd and apartOne are the chapter's A and B.
func odd() api.Auto { return made(1, []int{1, 2, 3, 2}, false, true, false, true) }

func apartOne() api.Auto { return made(1, []int{0, 1}, true, false) }

// whole and nothing accept all words over k letters, and none.
func whole(k int) api.Auto { return made(k, make([]int, k), true) }

func nothing(k int) api.Auto { return made(k, make([]int, k), false) }

// still is the automaton of k letters and n states where each letter stays.
func still(k, n int) api.Auto {
	out := api.Auto{Letters: k, Next: make([]int, max(k*n, 0)), Accept: make([]bool, n)}
	for i := range out.Next {
		out.Next[i] = i / k
	}
	return out
}

// lasso is the automaton of k letters where each letter leads through tail states into a ring of so many.
func lasso(k, tail, ring int, accepted ...int) api.Auto {
	n := tail + ring
	out := still(k, n)
	for i := range out.Next {
		out.Next[i] = i/k + 1
		if out.Next[i] == n {
			out.Next[i] = tail
		}
	}
	for _, s := range accepted {
		out.Accept[s] = true
	}
	return out
}

// beside is a with the states of b behind its own, which are not met.
func beside(a, b api.Auto) api.Auto {
	out := clone(a)
	for _, s := range b.Next {
		out.Next = append(out.Next, s+len(a.Accept))
	}
	out.Accept = append(out.Accept, b.Accept...)
	return out
}

// renamed is a, where each state has the name of another one: names has each state once.
func renamed(a api.Auto, names []int) api.Auto {
	out := still(a.Letters, len(a.Accept))
	for s, name := range names {
		for l := range a.Letters {
			out.Next[name*a.Letters+l] = names[a.Next[s*a.Letters+l]]
		}
		out.Accept[name] = a.Accept[s]
	}
	return out
}

// backward is a with its states named from the last one down.
func backward(a api.Auto) api.Auto {
	names := numbers(len(a.Accept))
	slices.Reverse(names)
	return renamed(a, names)
}

// numbers are 0 to n - 1.
func numbers(n int) []int {
	out := make([]int, n)
	for i := range out {
		out[i] = i
	}
	return out
}

func clone(a api.Auto) api.Auto {
	return api.Auto{Letters: a.Letters, Next: slices.Clone(a.Next), Accept: slices.Clone(a.Accept)}
}

func same(a, b api.Auto) bool {
	return a.Letters == b.Letters && slices.Equal(a.Next, b.Next) && slices.Equal(a.Accept, b.Accept)
}

// turned are the states that were not accepted.
func turned(accept []bool) []bool {
	out := slices.Clone(accept)
	for i := range out {
		out[i] = !out[i]
	}
	return out
}

// isZero: is it what stands beside an error?
func isZero(a api.Auto) bool { return a.Letters == 0 && len(a.Next) == 0 && len(a.Accept) == 0 }

// brief is an automaton as a message may show it, shortList a list.
func brief(a api.Auto) string {
	if n := len(a.Accept); n > 12 {
		return strconv.Itoa(a.Letters) + " letters, " + strconv.Itoa(n) + " states"
	}
	out := strconv.Itoa(a.Letters) + " " + shortList(a.Next) + " "
	for _, is := range a.Accept {
		out += map[bool]string{true: "+", false: "-"}[is]
	}
	return out
}

func shortList(l []int) string {
	var out []string
	for _, n := range l[:min(len(l), 40)] {
		out = append(out, strconv.Itoa(n))
	}
	if len(l) > 40 {
		out = append(out, "..")
	}
	return "[" + strings.Join(out, " ") + "]"
}

// short is a word as a message may show it.
func short(w string) string {
	if len(w) > 20 {
		return w[:20] + ".. (" + strconv.Itoa(len(w)) + ")"
	}
	return w
}

// lists holds a call's answer to a list and OK.
func lists(t *testing.T, call string, got []int, e api.Errno, should []int) {
	t.Helper()
	if e != api.OK || !slices.Equal(got, should) {
		t.Errorf("%s is %s, %d; should be %s", call, shortList(got), e, shortList(should))
	}
}

// gives holds Minimal's answer to an automaton, a list and OK.
func gives(t *testing.T, call string, got api.Auto, to []int, e api.Errno, should api.Auto, shouldTo []int) {
	t.Helper()
	if e != api.OK || !same(got, should) || !slices.Equal(to, shouldTo) {
		t.Errorf("%s is %s, %s, %d; should be %s, %s", call, brief(got), shortList(to), e, brief(should), shortList(shouldTo))
	}
}

// dice answers numbers that look thrown and are the same at each run.
type dice uint64

func (d *dice) below(n int) int {
	x := uint64(*d)
	x ^= x << 13
	x ^= x >> 7
	x ^= x << 17
	*d = dice(x)
	return int(x >> 11 % uint64(n))
}

// thrown is an automaton of k letters and n states, where about one state of so many is accepted.
func (d *dice) thrown(k, n, one int) api.Auto {
	out := api.Auto{Letters: k}
	for range n {
		for range k {
			out.Next = append(out.Next, d.below(n))
		}
		out.Accept = append(out.Accept, d.below(one) == 0)
	}
	return out
}

// word is a word of that many letters, of the first k.
func (d *dice) word(k, letters int) string {
	out := make([]byte, letters)
	for i := range out {
		out[i] = 'a' + byte(d.below(k))
	}
	return string(out)
}

// names are 0 to n - 1 in a thrown order, from which 0 stays ahead.
func (d *dice) names(n int) []int {
	out := numbers(n)
	for i := n - 1; i > 1; i-- {
		j := 1 + d.below(i)
		out[i], out[j] = out[j], out[i]
	}
	return out
}

// blown is an automaton of n states and the same language: each state stands for one of a's, which are no more than n, and of those that stand for the same one each letter leads to a thrown one. The second answer is which one each stands for.
func (d *dice) blown(a api.Auto, n int) (api.Auto, []int) {
	m := len(a.Accept)
	stands := numbers(m)
	for len(stands) < n {
		stands = append(stands, d.below(m))
	}
	twins := make([][]int, m)
	for s, of := range stands {
		twins[of] = append(twins[of], s)
	}
	out := api.Auto{Letters: a.Letters}
	for _, of := range stands {
		for l := range a.Letters {
			to := twins[a.Next[of*a.Letters+l]]
			out.Next = append(out.Next, to[d.below(len(to))])
		}
		out.Accept = append(out.Accept, a.Accept[of])
	}
	return out, stands
}

// everyAuto is each automaton of k letters and n states.
func everyAuto(k, n int) []api.Auto {
	var out []api.Auto
	now := api.Auto{Letters: k, Next: make([]int, n*k), Accept: make([]bool, n)}
	for {
		out = append(out, clone(now))
		if !nextAuto(now, n) {
			return out
		}
	}
}

// nextAuto counts on, the first places first; false, once all have been.
func nextAuto(a api.Auto, n int) bool {
	for i := range a.Accept {
		a.Accept[i] = !a.Accept[i]
		if a.Accept[i] {
			return true
		}
	}
	for i := range a.Next {
		a.Next[i]++
		if a.Next[i] < n {
			return true
		}
		a.Next[i] = 0
	}
	return false
}

// small are all automata of few letters and states.
func small() []api.Auto {
	return slices.Concat(everyAuto(1, 1), everyAuto(1, 2), everyAuto(1, 3), everyAuto(1, 4), everyAuto(2, 1), everyAuto(2, 2), everyAuto(2, 3), everyAuto(3, 1), everyAuto(3, 2), everyAuto(8, 1))
}

// great are automata of all letters: thrown ones, some with states that are not met, and ones of fewer languages than states.
func great() []api.Auto {
	d := dice(88172645463325252)
	var out []api.Auto
	for k := 1; k <= 8; k++ {
		for n := 1; n <= 9; n++ {
			a := d.thrown(k, n, 3)
			twice, _ := d.blown(a, 2*n+1)
			out = append(out, a, twice, d.thrown(k, n+9, 9), beside(a, twice), beside(twice, d.thrown(k, n, 2)))
			out = append(out, renamed(twice, d.names(2*n+1)), backward(twice))
		}
		out = append(out, lasso(k, 0, 5, 0), lasso(k, 3, 4, 1, 5), lasso(k, 20, 7, 0, 26), backward(lasso(k, 12, 1, 12)), lasso(k, 0, 12, 1, 5, 9), beside(lasso(k, 1, 3, 0), lasso(k, 2, 5, 4)))
		out = append(out, still(k, 5), backward(lasso(k, 0, 12, 3)))
	}
	return out
}

func samples() []api.Auto { return append(small(), great()...) }

// words are all words over k letters of at most n letters, the shorter ones first, those of one length by their letters.
func words(k, n int) []string {
	out := []string{""}
	for at := 0; len(out[at]) < n; at++ {
		for l := range k {
			out = append(out, out[at]+string(rune('a'+l)))
		}
	}
	return out
}

// fewWords is a length up to which the words over k letters are not too many.
func fewWords(k int) int { return [...]int{0, 12, 6, 4, 3, 2, 2, 2, 2}[k] }
