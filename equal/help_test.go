package equal_test

import (
	"slices"
	"strconv"
	"strings"
	"testing"

	"eggbox/api"
	"eggbox/equal"
)

// made is the automaton of these letters, ways and accepted states.
func made(k int, next []int, accept ...bool) api.Auto {
	return api.Auto{Letters: k, Next: next, Accept: accept}
}

// bStar is the chapter's A: it accepts b*.
func bStar() api.Auto { return made(2, []int{1, 0, 1, 1}, true, false) }

// whole and nothing accept all words over k letters, and none.
func whole(k int) api.Auto { return made(k, make([]int, k), true) }

func nothing(k int) api.Auto { return made(k, make([]int, k), false) }

// still is the automaton of k letters and n states where each letter stays.
func still(k, n int) api.Auto {
	out := api.Auto{Letters: k, Next: make([]int, max(k*n, 0)), Accept: make([]bool, n)}
	for i := range out.Next {
		out.Next[i] = i / k
	}
	return out
}

// lasso is the automaton of k letters where each letter leads through tail states into a ring of so many.
func lasso(k, tail, ring int, accepted ...int) api.Auto {
	n := tail + ring
	out := still(k, n)
	for i := range out.Next {
		out.Next[i] = i/k + 1
		if out.Next[i] == n {
			out.Next[i] = tail
		}
	}
	for _, s := range accepted {
		out.Accept[s] = true
	}
	return out
}

// beside is a with the states of b behind its own, which are not met.
func beside(a, b api.Auto) api.Auto {
	out := clone(a)
	for _, s := range b.Next {
		out.Next = append(out.Next, s+len(a.Accept))
	}
	out.Accept = append(out.Accept, b.Accept...)
	return out
}

// renamed is a, where each state has the name of another one: names has each state once, and 0 its own.
func renamed(a api.Auto, names []int) api.Auto {
	out := still(a.Letters, len(a.Accept))
	for s, name := range names {
		for l := range a.Letters {
			out.Next[name*a.Letters+l] = names[a.Next[s*a.Letters+l]]
		}
		out.Accept[name] = a.Accept[s]
	}
	return out
}

func clone(a api.Auto) api.Auto {
	return api.Auto{Letters: a.Letters, Next: slices.Clone(a.Next), Accept: slices.Clone(a.Accept)}
}

func same(a, b api.Auto) bool {
	return a.Letters == b.Letters && slices.Equal(a.Next, b.Next) && slices.Equal(a.Accept, b.Accept)
}

// turned is a with each state's Accept turned.
func turned(a api.Auto) api.Auto {
	out := clone(a)
	for s := range out.Accept {
		out.Accept[s] = !out.Accept[s]
	}
	return out
}

// brief is an automaton as a message may show it, short a word.
func brief(a api.Auto) string {
	if n := len(a.Accept); n > 12 {
		return strconv.Itoa(a.Letters) + " letters, " + strconv.Itoa(n) + " states"
	}
	out := strconv.Itoa(a.Letters) + " ["
	for _, s := range a.Next {
		out += " " + strconv.Itoa(s)
	}
	out += " ] "
	for _, is := range a.Accept {
		out += map[bool]string{true: "+", false: "-"}[is]
	}
	return out
}

func short(w string) string {
	if len(w) > 20 {
		return w[:20] + ".. (" + strconv.Itoa(len(w)) + ")"
	}
	return w
}

// search is a call that finds a word, and what a word must show for it: which of the two languages it is of.
type search struct {
	name  string
	call  func(a, b api.Auto) (string, bool, api.Errno)
	shows func(first, second bool) bool
}

var (
	differ = search{"Differ", equal.Differ, func(first, second bool) bool { return first != second }}
	escape = search{"Escape", equal.Escape, func(first, second bool) bool { return first && !second }}
	meet   = search{"Meet", equal.Meet, func(first, second bool) bool { return first && second }}
)

func searches() []search { return []search{differ, escape, meet} }

// finds holds a search's answer to a word, whether there is one, and OK.
func (s search) finds(t *testing.T, a, b api.Auto, should string, found bool) {
	t.Helper()
	w, is, e := s.call(a, b)
	if w != should || is != found || e != api.OK {
		t.Errorf("%s of %s and %s is %q, %v, %d; should be %q, %v", s.name, brief(a), brief(b), short(w), is, e, short(should), found)
	}
}

// verdict is a call that answers whether it is so.
type verdict struct {
	name string
	call func(a, b api.Auto) (bool, api.Errno)
}

var (
	isEqual  = verdict{"Equal", equal.Equal}
	isInside = verdict{"Inside", equal.Inside}
)

func verdicts() []verdict { return []verdict{isEqual, isInside} }

// says holds a verdict to what it should be and OK.
func (v verdict) says(t *testing.T, a, b api.Auto, should bool) {
	t.Helper()
	if is, e := v.call(a, b); is != should || e != api.OK {
		t.Errorf("%s of %s and %s is %v, %d", v.name, brief(a), brief(b), is, e)
	}
}

// dice answers numbers that look thrown and are the same at each run.
type dice uint64

func (d *dice) below(n int) int {
	x := uint64(*d)
	x ^= x << 13
	x ^= x >> 7
	x ^= x << 17
	*d = dice(x)
	return int(x >> 11 % uint64(n))
}

// thrown is an automaton of k letters and n states, where about one state of so many is accepted.
func (d *dice) thrown(k, n, one int) api.Auto {
	out := api.Auto{Letters: k}
	for range n {
		for range k {
			out.Next = append(out.Next, d.below(n))
		}
		out.Accept = append(out.Accept, d.below(one) == 0)
	}
	return out
}

// word is a word of that many letters, of the first k.
func (d *dice) word(k, letters int) string {
	out := make([]byte, letters)
	for i := range out {
		out[i] = 'a' + byte(d.below(k))
	}
	return string(out)
}

// names are 0 to n - 1 in a thrown order, from which 0 stays ahead.
func (d *dice) names(n int) []int {
	out := make([]int, n)
	for i := range out {
		out[i] = i
	}
	for i := n - 1; i > 1; i-- {
		j := 1 + d.below(i)
		out[i], out[j] = out[j], out[i]
	}
	return out
}

// blown is an automaton of n states and the same language: each state stands for one of a's, which are no more than n, and of those that stand for the same one each letter leads to a thrown one.
func (d *dice) blown(a api.Auto, n int) api.Auto {
	var stands []int
	twins := make([][]int, len(a.Accept))
	for s := range n {
		of := s
		if s >= len(a.Accept) {
			of = d.below(len(a.Accept))
		}
		stands = append(stands, of)
		twins[of] = append(twins[of], s)
	}
	out := api.Auto{Letters: a.Letters}
	for _, of := range stands {
		for l := range a.Letters {
			to := twins[a.Next[of*a.Letters+l]]
			out.Next = append(out.Next, to[d.below(len(to))])
		}
		out.Accept = append(out.Accept, a.Accept[of])
	}
	return out
}

// deep is an automaton of k letters and n states where from each state one letter or two lead to the next one, all others back or nowhere: words that lead to the last states are long.
func (d *dice) deep(k, n int) api.Auto {
	out := api.Auto{Letters: k, Accept: make([]bool, n)}
	for s := range n {
		for range k {
			out.Next = append(out.Next, d.below(s+1))
		}
		for range 2 {
			out.Next[s*k+d.below(k)] = min(s+1, n-1)
		}
	}
	return out
}

// everyAuto is each automaton of k letters and n states.
func everyAuto(k, n int) []api.Auto {
	var out []api.Auto
	now := api.Auto{Letters: k, Next: make([]int, n*k), Accept: make([]bool, n)}
	for {
		out = append(out, clone(now))
		if !nextAuto(now, n) {
			return out
		}
	}
}

// nextAuto counts on, the first places first; false, once all have been.
func nextAuto(a api.Auto, n int) bool {
	for i := range a.Accept {
		a.Accept[i] = !a.Accept[i]
		if a.Accept[i] {
			return true
		}
	}
	for i := range a.Next {
		a.Next[i]++
		if a.Next[i] < n {
			return true
		}
		a.Next[i] = 0
	}
	return false
}

// samples are automata of the same letters, two by two: thrown ones, some with states that are not met, some of one language, some that are so but for a state.
func samples() [][2]api.Auto {
	d := dice(88172645463325252)
	var out [][2]api.Auto
	for k := 1; k <= 8; k++ {
		for n := 1; n <= 14; n++ {
			a, b := d.thrown(k, n, 3), d.thrown(k, 1+d.below(12), 4)
			twice := renamed(d.blown(a, 2*n+1), d.names(2*n+1))
			near := clone(twice)
			near.Accept[d.below(2*n+1)] = true
			lone, rare := d.thrown(k, n+5, 20), d.thrown(k, n+9, 20)
			lone.Accept[n], rare.Accept[n+3] = true, true
			for _, p := range [][2]api.Auto{{a, b}, {a, twice}, {twice, near}, {near, a}, {beside(a, b), twice}, {beside(b, twice), beside(a, near)}, {lone, rare}, {turned(lone), rare}} {
				out = append(out, p, [2]api.Auto{p[1], p[0]})
			}
		}
		out = append(out, d.deepSamples(k)...)
		out = append(out, [2]api.Auto{lasso(k, 2, 9, 4), lasso(k, 1, 7, 3)}, [2]api.Auto{lasso(k, 0, 15, 0), lasso(k, 20, 6, 22)}, [2]api.Auto{lasso(k, 0, 12, 0, 6), lasso(k, 0, 18, 0, 6, 12)})
	}
	return out
}

// deepSamples are automata with long least words, two by two.
func (d *dice) deepSamples(k int) [][2]api.Auto {
	var out [][2]api.Auto
	for n := 6; n <= 14; n++ {
		a, b := d.deep(k, n), d.deep(k, n-d.below(4))
		a.Accept[n-2], b.Accept[len(b.Accept)-1] = true, true
		near := d.blown(a, n+7)
		near.Accept[n-1] = true
		out = append(out, [2]api.Auto{a, b}, [2]api.Auto{b, a}, [2]api.Auto{a, near}, [2]api.Auto{near, a}, [2]api.Auto{turned(near), b}, [2]api.Auto{b, turned(a)})
	}
	return out
}

// words are all words over k letters of at most n letters, the shorter ones first, those of one length by their letters.
func words(k, n int) []string {
	out := []string{""}
	for at := 0; len(out[at]) < n; at++ {
		for l := range k {
			out = append(out, out[at]+string(rune('a'+l)))
		}
	}
	return out
}

// isLess: is u ahead of v in length-then-letter order?
func isLess(u, v string) bool {
	return len(u) < len(v) || len(u) == len(v) && strings.Compare(u, v) < 0
}
