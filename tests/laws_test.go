package tests_test

import (
	"slices"
	"testing"

	"eggbox/api"
	"eggbox/auto"
	"eggbox/equal"
	"eggbox/green"
	"eggbox/minim"
	"eggbox/monoid"
)

// visitMinimal goes through minimal automata all of whose states are met, those of great monoids too, and their monoids.
func visitMinimal(t *testing.T, look func(name string, a api.Auto, m *monoid.Monoid)) {
	t.Helper()
	for _, s := range slices.Concat(minimalOnes(t), greatMinimal()) {
		if n := len(minimal(t, s.a).Accept); n != len(s.a.Accept) {
			t.Fatalf("%s: of %d states %d are left", s.name, len(s.a.Accept), n)
		}
		look(s.name, s.a, built(t, s.a))
		if t.Failed() {
			return
		}
	}
}

// shapes is what the classes of Green's relations look like.
type shapes struct {
	alone        map[int]bool // by relation: has each class one element?
	one          bool         // is there one H class?
	idempotentsD bool         // is, with one element of a D class, each of it idempotent?
	idempotents  bool         // has no R class and no L class two idempotents?
}

// shapesOf asks green alone, and products for what is idempotent.
func shapesOf(t *testing.T, m *monoid.Monoid) shapes {
	t.Helper()
	g, e := green.Make(m)
	if e != api.OK {
		t.Fatalf("Make: %d", e)
	}
	out := shapes{alone: map[int]bool{}, idempotentsD: true, idempotents: true}
	for _, relation := range []int{api.R, api.L, api.J, api.H, api.D} {
		out.alone[relation] = must[int](t)(g.Count(relation)) == m.Len()
	}
	out.one = must[int](t)(g.Count(api.H)) == 1
	for _, relation := range []int{api.R, api.L, api.D} {
		for c := range must[int](t)(g.Count(relation)) {
			members := must[[]int](t)(g.Members(relation, c))
			count := 0
			for _, i := range members {
				if must[int](t)(m.Product(i, i)) == i {
					count++
				}
			}
			switch {
			case relation == api.D:
				out.idempotentsD = out.idempotentsD && (count == 0 || count == len(members))
			case count > 1:
				out.idempotents = false
			}
		}
	}
	return out
}

func TestP2104ByGreen(t *testing.T) {
	met := tally{}
	visit(t, slices.Concat(smallOnes(t), greatOnes()), func(name string, m *monoid.Monoid) {
		s := shapesOf(t, m)
		for class, should := range map[string]bool{
			"counterfree": s.alone[api.H],
			"htrivial":    s.alone[api.H],
			"rtrivial":    s.alone[api.R],
			"ltrivial":    s.alone[api.L],
			"jtrivial":    s.alone[api.J],
			"group":       s.one,
			"da":          s.idempotentsD,
			"blocks":      s.idempotents,
		} {
			met.add(class, should)
			if is := test(t, m, class); is != should {
				t.Errorf("%s: Test of %s is %v, by green %v", name, class, is, should)
			}
		}
		if s.alone[api.J] != s.alone[api.D] {
			t.Errorf("%s: J and D are unlike", name)
		}
	})
	for class, n := range met {
		if min(n[0], n[1]) < 10 {
			t.Errorf("%s: not %d times, and so %d times", class, n[0], n[1])
		}
	}
}

// TestP2105WhichWithinWhich: the promise's sentences.
func TestP2105WhichWithinWhich(t *testing.T) {
	look := func(name string, is map[string]bool) {
		for _, within := range [][2]string{{"rtrivial", "da"}, {"ltrivial", "da"}, {"da", "counterfree"}, {"da", "ds"}, {"commutative", "central"}, {"central", "blocks"}, {"group", "blocks"}, {"group", "ds"}, {"semilattice", "jtrivial"}} {
			if is[within[0]] && !is[within[1]] {
				t.Errorf("%s: %s, and not %s", name, within[0], within[1])
			}
		}
		for _, both := range [][3]string{{"semilattice", "idempotent", "commutative"}, {"jtrivial", "rtrivial", "ltrivial"}, {"acom", "counterfree", "commutative"}, {"trivial", "group", "counterfree"}} {
			if is[both[0]] != (is[both[1]] && is[both[2]]) {
				t.Errorf("%s: %s %v, %s %v, %s %v", name, both[0], is[both[0]], both[1], is[both[1]], both[2], is[both[2]])
			}
		}
		for _, class := range names() {
			if is["trivial"] && !is[class] {
				t.Errorf("%s: trivial, and not %s", name, class)
			}
		}
	}
	visit(t, slices.Concat(smallOnes(t), greatOnes()), func(name string, m *monoid.Monoid) { look(name, classes(t, m)) })
	up, down := 0, 0
	visitMinimal(t, func(name string, a api.Auto, m *monoid.Monoid) {
		is := classes(t, m)
		if (is["upward"] || is["downward"]) && !is["jtrivial"] {
			t.Errorf("%s: upward %v, downward %v, and not jtrivial", name, is["upward"], is["downward"])
		}
		if is["upward"] && is["downward"] && !is["trivial"] {
			t.Errorf("%s: upward and downward", name)
		}
		if is["upward"] {
			up++
		}
		if is["downward"] {
			down++
		}
	})
	if min(up, down) < 10 {
		t.Errorf("%d upward, %d downward alone", up, down)
	}
}

// within are, for each class, those that have all of its monoids; of minimal automata upward and downward are within more.
func within(ofMinimal bool) map[string][]string {
	out := map[string][]string{
		"trivial":     names(),
		"group":       {"group", "ds", "blocks", "central"},
		"commutative": {"commutative", "ds", "blocks", "central"},
		"idempotent":  {"idempotent", "counterfree", "htrivial", "da", "ds"},
		"semilattice": {"commutative", "idempotent", "semilattice", "counterfree", "rtrivial", "ltrivial", "jtrivial", "htrivial", "da", "ds", "blocks", "central", "acom"},
		"counterfree": {"counterfree", "htrivial"},
		"rtrivial":    {"counterfree", "rtrivial", "htrivial", "da", "ds"},
		"ltrivial":    {"counterfree", "ltrivial", "htrivial", "da", "ds"},
		"jtrivial":    {"counterfree", "rtrivial", "ltrivial", "jtrivial", "htrivial", "da", "ds", "blocks"},
		"htrivial":    {"counterfree", "htrivial"},
		"da":          {"counterfree", "htrivial", "da", "ds"},
		"ds":          {"ds"},
		"blocks":      {"blocks"},
		"central":     {"ds", "blocks", "central"},
		"upward":      {"upward"},
		"downward":    {"downward"},
		"acom":        {"commutative", "counterfree", "rtrivial", "ltrivial", "jtrivial", "htrivial", "da", "ds", "blocks", "central", "acom"},
	}
	if ofMinimal {
		out["upward"] = append(slices.Clone(out["jtrivial"]), "upward")
		out["downward"] = append(slices.Clone(out["jtrivial"]), "downward")
	}
	return out
}

// TestP2105AndNoOthers: of each two classes that the promises do not put one within the other, some monoid is in the first one alone.
func TestP2105AndNoOthers(t *testing.T) {
	samples := map[bool][]sample{true: minimalOnes(t), false: smallOnes(t)}
	for _, ofMinimal := range []bool{false, true} {
		alone := map[[2]string]bool{}
		visit(t, samples[ofMinimal], func(name string, m *monoid.Monoid) {
			is := classes(t, m)
			for one := range is {
				for _, other := range names() {
					if !is[other] {
						alone[[2]string{one, other}] = true
					}
				}
			}
		})
		for _, one := range names() {
			for _, other := range names() {
				if should := !slices.Contains(within(ofMinimal)[one], other); alone[[2]string{one, other}] != should {
					t.Errorf("minimal: %v; %s, and not %s: %v", ofMinimal, one, other, !should)
				}
			}
		}
	}
}

// changed is the classes' names with two of them changed about, as a set.
func changed(is map[string]bool, one, other string) map[string]bool {
	out := map[string]bool{}
	for _, name := range names() {
		switch name {
		case one:
			out[name] = is[other]
		case other:
			out[name] = is[one]
		default:
			out[name] = is[name]
		}
	}
	return out
}

// same: are the same classes in both?
func same(a, b map[string]bool) bool {
	for _, name := range names() {
		if a[name] != b[name] {
			return false
		}
	}
	return true
}

func TestP2106Complement(t *testing.T) {
	turned := 0
	visitMinimal(t, func(name string, a api.Auto, m *monoid.Monoid) {
		is, other := classes(t, m), classes(t, built(t, not(a)))
		if !same(other, changed(is, "upward", "downward")) {
			t.Errorf("%s: %v, and with the other states accepted %v", name, is, other)
		}
		if is["upward"] != is["downward"] {
			turned++
		}
	})
	if turned < 20 {
		t.Errorf("%d are upward or downward alone", turned)
	}
}

// TestP2106ComplementOfAny: contexts let in just what they did not, so that the order turns round whatever the automaton is.
func TestP2106ComplementOfAny(t *testing.T) {
	visit(t, slices.Concat(others(t), greatOnes()[len(greatMinimal()):]), func(name string, m *monoid.Monoid) {
		is, other := classes(t, m), classes(t, built(t, not(m.Auto())))
		if !same(other, changed(is, "upward", "downward")) {
			t.Errorf("%s: %v, and with the other states accepted %v", name, is, other)
		}
	})
}

// TestP2106FromBehind: of the language of the words from behind the monoid is turned round, so that rtrivial and ltrivial change about, and nothing else.
func TestP2106FromBehind(t *testing.T) {
	turned, looked := 0, 0
	visitMinimal(t, func(name string, a api.Auto, m *monoid.Monoid) {
		back, e := auto.Reverse(a)
		if e != api.OK {
			return
		}
		other, e := monoid.Build(minimal(t, back))
		if e != api.OK {
			return
		}
		if other.Len() != m.Len() {
			t.Fatalf("%s: %d elements, from behind %d", name, m.Len(), other.Len())
		}
		is, there := classes(t, m), classes(t, other)
		if !same(there, changed(is, "rtrivial", "ltrivial")) {
			t.Errorf("%s: %v, from behind %v", name, is, there)
		}
		looked++
		if is["rtrivial"] != is["ltrivial"] {
			turned++
		}
	})
	if looked < 200 || turned < 20 {
		t.Errorf("%d were turned round, %d are rtrivial or ltrivial alone", looked, turned)
	}
}

// started is the automaton whose first state is s.
func started(a api.Auto, s int) api.Auto {
	to := func(state int) int {
		switch state {
		case 0:
			return s
		case s:
			return 0
		}
		return state
	}
	out := of(a.Letters, len(a.Accept), func(state, l int) int { return to(a.Next[to(state)*a.Letters+l]) })
	return accepting(out, func(state int) bool { return a.Accept[to(state)] })
}

// closed: with each word, has the language all that come about by putting a letter in (or by taking one out)? All states are met, so that is so just where, for each state and each letter, the words that are accepted from the one are accepted from the one to which the letter leads (or the other way).
func closed(t *testing.T, a api.Auto, in bool) bool {
	t.Helper()
	for s := range a.Accept {
		for l := range a.Letters {
			one, other := started(a, s), started(a, a.Next[s*a.Letters+l])
			if !in {
				one, other = other, one
			}
			if !must[bool](t)(equal.Inside(one, other)) {
				return false
			}
		}
	}
	return true
}

func TestP2107UpwardByStates(t *testing.T) {
	up, down, none := 0, 0, 0
	visitMinimal(t, func(name string, a api.Auto, m *monoid.Monoid) {
		in, out := closed(t, a, true), closed(t, a, false)
		if is := test(t, m, "upward"); is != in {
			t.Errorf("%s: upward is %v", name, is)
		}
		if is := test(t, m, "downward"); is != out {
			t.Errorf("%s: downward is %v", name, is)
		}
		switch {
		case in:
			up++
		case out:
			down++
		default:
			none++
		}
	})
	if min(up, down, none) < 20 {
		t.Errorf("%d upward, %d downward, %d neither", up, down, none)
	}
}

// wordsUpTo are all words of at most n letters, in their order.
func wordsUpTo(k, n int) []string {
	out := []string{""}
	for from, to := 0, 1; n > 0; n-- {
		for _, w := range out[from:to] {
			for l := range k {
				out = append(out, w+string(rune('a'+l)))
			}
		}
		from, to = to, len(out)
	}
	return out
}

// TestP2107ByWords: of short words, with a letter put in at each place, and taken out at each place.
func TestP2107ByWords(t *testing.T) {
	met := map[[2]bool]int{}
	for _, s := range minimalOnes(t) {
		k, n := s.a.Letters, len(s.a.Accept)
		if k > 2 || n > 5 {
			continue
		}
		accepted := map[string]bool{}
		// What tells a state from the one to which a letter leads is a word of at most n n letters, but of these few states most are told apart by short ones.
		for _, w := range wordsUpTo(k, 9) {
			accepted[w] = must[bool](t)(auto.Accepts(s.a, w))
		}
		in, out := true, true
		for w := range accepted {
			for i := range w {
				without := w[:i] + w[i+1:]
				in = in && (!accepted[without] || accepted[w])
				out = out && (!accepted[w] || accepted[without])
			}
		}
		m := built(t, s.a)
		if up, down := test(t, m, "upward"), test(t, m, "downward"); up != in || down != out {
			t.Errorf("%s: upward is %v, downward %v; by words %v, %v", s.name, up, down, in, out)
		}
		met[[2]bool{in, out}]++
	}
	if len(met) != 4 || met[[2]bool{true, false}] < 10 || met[[2]bool{false, true}] < 10 {
		t.Errorf("of the languages: %v", met)
	}
}

// TestP3CounterfreeByWords: just where no words u, x, v are such that u x^m v goes on changing. All least words are tried, which do what all words do.
func TestP3CounterfreeByWords(t *testing.T) {
	free, counting := 0, 0
	for _, s := range minimalOnes(t) {
		m := built(t, s.a)
		if m.Len() > 15 {
			continue
		}
		var words []string
		for i := range m.Len() {
			words = append(words, must[string](t)(m.Word(i)))
		}
		changes := false
		for _, u := range words {
			for _, x := range words {
				for _, v := range words {
					changes = changes || goesOn(t, s.a, u, x, v)
				}
			}
		}
		if is := test(t, m, "counterfree"); is == changes {
			t.Errorf("%s: counterfree is %v", s.name, is)
		}
		if changes {
			counting++
		} else {
			free++
		}
	}
	if min(free, counting) < 30 {
		t.Errorf("%d count, %d do not", counting, free)
	}
}

// goesOn: is, from some m on, which has as many x as there are states, one of u x^m v and u x^(m+1) v accepted, and not the other one, again and again?
func goesOn(t *testing.T, a api.Auto, u, x, v string) bool {
	t.Helper()
	s := must[int](t)(auto.Run(a, 0, u))
	for range a.Accept {
		s = must[int](t)(auto.Run(a, s, x))
	}
	first := a.Accept[must[int](t)(auto.Run(a, s, v))]
	for range a.Accept {
		s = must[int](t)(auto.Run(a, s, x))
		if a.Accept[must[int](t)(auto.Run(a, s, v))] != first {
			return true
		}
	}
	return false
}

// TestP2103OfTheLanguage: what asks for no order is asked of the monoid; of the order, of the language alone, whatever states it has.
func TestP2103OfTheLanguage(t *testing.T) {
	visit(t, others(t), func(name string, m *monoid.Monoid) {
		small, _, e := minim.Minimal(m.Auto())
		if e != api.OK {
			t.Fatalf("Minimal: %d", e)
		}
		is, least := classes(t, m), classes(t, built(t, small))
		for _, class := range names() {
			switch ordered := class == "upward" || class == "downward"; {
			case ordered && is[class] != least[class]:
				t.Errorf("%s: %s is %v, of the minimal automaton %v", name, class, is[class], least[class])
			case is[class] && !least[class]:
				t.Errorf("%s: %s, and not of the minimal automaton", name, class)
			}
		}
	})
}
