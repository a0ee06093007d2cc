package auto_test

import (
	"testing"

	"eggbox/api"
	"eggbox/auto"
)

// turns is the automaton of k letters where this one turns a ring of n states, and the others stay; 0 is accepted.
func turns(k, letter, n int) api.Auto {
	out := still(k, n)
	for s := range n {
		out.Next[s*k+letter] = (s + 1) % n
	}
	out.Accept[0] = true
	return out
}

// TestP8_7JustSoMany: pairs that are met, not all that there are.
func TestP8_7JustSoMany(t *testing.T) {
	for _, c := range twos()[:3] {
		for _, p := range []struct {
			a, b   api.Auto
			states int
		}{
			{turns(2, 0, 64), turns(2, 1, 64), 4096},
			{turns(8, 6, 64), turns(8, 7, 64), 4096},
			{turns(2, 0, 1), turns(2, 1, 4096), 4096},
			{lasso(0, 4096, 0), lasso(0, 4096, 5), 4096},
			{lasso(0, 4096, 0), lasso(0, 64, 5), 4096},
			{lasso(4095, 1, 0), lasso(4095, 1, 4095), 4096},
			{lasso(0, 63, 0), lasso(0, 65, 2), 4095},
			{lasso(1, 63, 0), lasso(0, 65, 2), 4096},
			{lasso(0, 4095, 0), lasso(1, 1, 1), 4096},
			{beside(lasso(0, 65, 0), still(1, 4031)), beside(lasso(1, 63, 7), still(1, 4032)), 4096},
		} {
			for _, p2 := range [][2]api.Auto{{p.a, p.b}, {p.b, p.a}} {
				got, e := c.call(p2[0], p2[1])
				has(t, c.name+" of "+brief(p2[0])+" and "+brief(p2[1]), got, e, p.states)
			}
		}
	}
}

func TestP8_7OneMore(t *testing.T) {
	for _, c := range twos()[:3] {
		for _, p := range [][2]api.Auto{
			{lasso(0, 17, 0), lasso(0, 241, 0)},    // 4097
			{lasso(1, 64, 0), lasso(0, 4096, 0)},   // 1 and 4096
			{lasso(2, 63, 0), lasso(0, 65, 0)},     // 2 and 4095
			{lasso(1, 4095, 0), lasso(0, 4096, 0)}, // 1 and 4095 times 4096
			{turns(2, 0, 64), turns(2, 1, 65)},
			{turns(8, 0, 4096), turns(8, 7, 2)},
			{turns(8, 0, 4096), turns(8, 7, 4096)},
		} {
			for _, p := range [][2]api.Auto{p, {p[1], p[0]}} {
				got, e := c.call(p[0], p[1])
				refused(t, c.name+" of "+brief(p[0])+" and "+brief(p[1]), got, e, api.ErrStates)
			}
		}
	}
}

// nthIsA accepts the words whose n-th letter is a: from behind there are 2^n sets of its states.
func nthIsA(n int) api.Auto {
	out := api.Auto{Letters: 2}
	in, no := n, n+1
	for s := range n - 1 {
		out.Next = append(out.Next, s+1, s+1)
	}
	out.Next = append(out.Next, in, no, in, in, no, no)
	out.Accept = make([]bool, n+2)
	out.Accept[in] = true
	return out
}

func TestP8_8JustSoMany(t *testing.T) {
	for _, p := range []struct {
		a      api.Auto
		states int
	}{
		{nthIsA(1), 2}, {nthIsA(6), 64}, {nthIsA(11), 2048}, {nthIsA(12), 4096},
		{lasso(0, 4096, 0), 4096}, {lasso(0, 4096, 77, 79), 4096},
		{turns(8, 7, 4096), 4096},
		{beside(lasso(0, 63, 0), lasso(0, 65, 0)), 4095},
		// The tail's state stands in the first set alone.
		{beside(lasso(1, 63, 0, 1), lasso(0, 65, 0)), 4096},
	} {
		got, e := auto.Reverse(p.a)
		has(t, "Reverse of "+brief(p.a), got, e, p.states)
	}
}

func TestP8_8OneMore(t *testing.T) {
	alone := nthIsA(12)
	alone.Next = append(alone.Next, 13, 13)
	alone.Accept = append(alone.Accept, true)
	for _, a := range []api.Auto{
		// A state that is accepted and to which nothing leads stands in the first set alone: 1 and 4096.
		alone,
		beside(lasso(0, 17, 0), lasso(0, 241, 0)), // 4097
		// The tail's states make two sets that are met but once: 2 and 4095.
		beside(lasso(2, 63, 0, 1, 2), lasso(0, 65, 0)),
		nthIsA(13), nthIsA(40), nthIsA(4094),
	} {
		got, e := auto.Reverse(a)
		refused(t, "Reverse of "+brief(a), got, e, api.ErrStates)
	}
}

// aThenLetters accepts the words of n letters that begin with a.
func aThenLetters(n int) api.Auto {
	out := api.Auto{Letters: 2, Next: []int{1, n + 1}}
	for s := 1; s <= n; s++ {
		out.Next = append(out.Next, s+1, s+1)
	}
	out.Next = append(out.Next, n+1, n+1)
	out.Accept = make([]bool, n+2)
	out.Accept[n] = true
	return out
}

func TestP8_9JustSoMany(t *testing.T) {
	for _, p := range []struct {
		a, b   api.Auto
		states int
	}{
		{lasso(0, 4096), lasso(0, 4096, 0), 4096},
		// The set of 0 alone is met at the beginning, and with 1 from the second round on.
		{lasso(0, 4095, 0), lasso(1, 1, 1), 4096},
		{lasso(0, 2048, 0), lasso(2048, 1, 1), 4096},
		{whole(1), lasso(0, 4096, 0), 4096}, {whole(1), lasso(4095, 1, 0), 4096},
	} {
		got, e := auto.Concat(p.a, p.b)
		has(t, "Concat of "+brief(p.a)+" and "+brief(p.b), got, e, p.states)
	}
}

func TestP8_9OneMore(t *testing.T) {
	for _, p := range [][2]api.Auto{
		{lasso(0, 4096, 0), lasso(1, 1, 1)},    // 1 and 4096
		{lasso(0, 2048, 0), lasso(2049, 1, 1)}, // 2049 and 2048
		{lasso(0, 4096, 4095), whole(1)},
		{whole(2), aThenLetters(13)},
		{whole(2), aThenLetters(4000)},
	} {
		got, e := auto.Concat(p[0], p[1])
		refused(t, "Concat of "+brief(p[0])+" and "+brief(p[1]), got, e, api.ErrStates)
	}
}

// TestP8_10JustSoMany: a ring of which nothing is accepted is met state by state, the beginning beside it.
func TestP8_10JustSoMany(t *testing.T) {
	for _, p := range []struct {
		a      api.Auto
		states int
	}{{lasso(0, 4095), 4096}, {lasso(4094, 1), 4095}, {lasso(4095, 1), 4096}, {lasso(4095, 1, 0), 4096}, {lasso(0, 1, 0), 2}, {lasso(0, 2047, 0), 2048}} {
		got, e := auto.Star(p.a)
		has(t, "Star of "+brief(p.a), got, e, p.states)
	}
}

func TestP8_10OneMore(t *testing.T) {
	for _, a := range []api.Auto{lasso(0, 4096), lasso(0, 4096, 0), turns(8, 7, 4096)} {
		got, e := auto.Star(a)
		refused(t, "Star of "+brief(a), got, e, api.ErrStates)
	}
}
