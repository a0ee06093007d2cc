package tests_test

import (
	"fmt"
	"slices"
	"strings"
	"testing"

	"eggbox/api"
	"eggbox/monoid"
	"eggbox/terms"
	"eggbox/tests"
)

// row is a class of the chapter's table.
type row struct {
	name  string
	texts []string
}

// table is the chapter's, its identities divided by semicolons.
func table() []row {
	var out []row
	for _, line := range []string{
		"trivial | x = 1",
		"group | x^w = 1",
		"commutative | xy = yx",
		"idempotent | xx = x",
		"semilattice | xx = x; xy = yx",
		"counterfree | x^w x = x^w",
		"rtrivial | (xy)^w x = (xy)^w",
		"ltrivial | y(xy)^w = (xy)^w",
		"jtrivial | (xy)^w x = (xy)^w; y(xy)^w = (xy)^w",
		"htrivial | x^w x = x^w",
		"da | x^w x = x^w; ((xy)^w(yx)^w(xy)^w)^w = (xy)^w",
		"ds | ((xy)^w(yx)^w(xy)^w)^w = (xy)^w",
		"blocks | (x^w y^w)^w = (y^w x^w)^w",
		"central | x^w y = y x^w",
		"upward | 1 <= x",
		"downward | x <= 1",
		"acom | x^w x = x^w; xy = yx",
	} {
		name, texts, _ := strings.Cut(line, " | ")
		out = append(out, row{name, strings.Split(texts, "; ")})
	}
	return out
}

func TestP2102Names(t *testing.T) {
	var should []string
	for _, r := range table() {
		should = append(should, r.name)
	}
	if l := tests.Names(); !slices.Equal(l, should) || len(l) != 17 {
		t.Errorf("Names is %v; should be %v", l, should)
	}
}

func TestP2102Identities(t *testing.T) {
	for _, r := range table() {
		if l := identities(t, r.name); !slices.Equal(l, r.texts) {
			t.Errorf("Identities(%q) is %q; should be %q", r.name, l, r.texts)
		}
	}
	for _, name := range tests.Names() {
		if len(identities(t, name)) == 0 {
			t.Errorf("%s has no identities", name)
		}
	}
}

// TestP2102TextsAreIdentities: each text is read, and has at most two variables; two of the classes ask for an order.
func TestP2102TextsAreIdentities(t *testing.T) {
	for _, name := range tests.Names() {
		for _, text := range identities(t, name) {
			id, at, e := terms.Parse(text)
			if e != api.OK {
				t.Fatalf("%s: Parse(%q): %d at %d", name, text, e, at)
			}
			if id.Less != (name == "upward" || name == "downward") {
				t.Errorf("%s: %q has Less %v", name, text, id.Less)
			}
			if v := must[string](t)(terms.Vars(id)); v != "x" && v != "xy" {
				t.Errorf("%s: %q has the variables %q", name, text, v)
			}
		}
	}
}

// is holds All to a list of names, with a blank between, and Test of each class to it.
func is(t *testing.T, name string, m *monoid.Monoid, should string) {
	t.Helper()
	if got := strings.Join(all(t, m), " "); got != should {
		t.Errorf("%s: All is %q; should be %q", name, got, should)
	}
	for _, class := range names() {
		if got := test(t, m, class); got != slices.Contains(strings.Fields(should), class) {
			t.Errorf("%s: Test of %s is %v", name, class, got)
		}
	}
}

// everyName is all names, as is takes them.
func everyName() string { return strings.Join(names(), " ") }

func TestP2103Examples(t *testing.T) {
	m := built(t, pairs())
	is(t, "(ab)*", m, "counterfree htrivial blocks")
	is(t, "(aa)*", built(t, atFirst(part{0, 0, 2}.auto(1))), "group commutative ds blocks central")
	whole := built(t, accepting(still(2, 1), func(s int) bool { return true }))
	if whole.Len() != 1 {
		t.Errorf("all words: %d elements", whole.Len())
	}
	is(t, "all words", whole, everyName())
	testNot(t, m, "star", api.ErrClass)
}

func TestP2103Languages(t *testing.T) {
	const simon = "counterfree rtrivial ltrivial jtrivial htrivial da ds blocks"
	const lattice = "commutative idempotent semilattice counterfree rtrivial ltrivial jtrivial htrivial da ds blocks central"
	const threshold = "commutative counterfree rtrivial ltrivial jtrivial htrivial da ds blocks central"
	for _, c := range []struct{ text, should string }{
		{"0", everyName()},
		{".*", everyName()},
		{".*a.*", lattice + " upward acom"},
		{"b*", lattice + " downward acom"},
		{"1", lattice + " downward acom"},
		{"..*", lattice + " upward acom"},
		{"bb*", lattice + " acom"},
		{".*a.*&.*b.*", lattice + " upward acom"},
		{".*a.*a.*", threshold + " upward acom"},
		{"b*|b*ab*", threshold + " downward acom"},
		{"b*ab*", threshold + " acom"},
		{"a", threshold + " acom"},
		{".*a.*b.*", simon + " upward"},
		{"b*a*", simon + " downward"},
		{"a?b?a?", simon + " central downward"},
		{"ab", simon + " central"},
		{"b*ab", simon},
		{"a.*", "idempotent counterfree rtrivial htrivial da ds"},
		{".*a", "idempotent counterfree ltrivial htrivial da ds"},
		{"a.*a|a", "idempotent counterfree htrivial da ds"},
		{".b.*", "counterfree rtrivial htrivial da ds"},
		{".*b.", "counterfree ltrivial htrivial da ds"},
		{".b.*&.*b.", "counterfree htrivial da ds"},
		{".*aa.*", "counterfree htrivial"},
		{"(ab|ba)*", "counterfree htrivial blocks"},
		{"(..)*", "group commutative ds blocks central"},
		{"(...)*|a", "commutative ds blocks central"},
		{"a(..)*", "ds"},
		{"(aa|b)*", "blocks"},
		{"(aa|b)*&.*aa.*|.*bab.*", ""},
	} {
		is(t, c.text, built(t, read(t, 2, c.text)), c.should)
	}
}

// TestP2103OneElement: it is in all classes, however many states stay where they are, and whichever of them are accepted.
func TestP2103OneElement(t *testing.T) {
	for k := 1; k <= 8; k++ {
		for _, n := range []int{1, 2, 3, 64} {
			for _, accepted := range []func(s int) bool{func(s int) bool { return s == 0 }, func(s int) bool { return s > 0 }, func(s int) bool { return false }, func(s int) bool { return true }} {
				m := built(t, accepting(still(k, n), accepted))
				if m.Len() != 1 {
					t.Errorf("%d elements", m.Len())
				}
				is(t, fmt.Sprint(k, " letters, ", n, " states that stay"), m, everyName())
			}
		}
	}
}

func TestP2103Groups(t *testing.T) {
	const group, commuting = "group ds blocks central", "group commutative ds blocks central"
	for _, c := range []struct {
		name   string
		a      api.Auto
		should string
	}{
		{"permutations of 2", turns(2), commuting},
		{"permutations of 3", turns(3), group},
		{"permutations of 4", turns(4), group},
		{"permutations of 5", turns(5), group},
		{"even permutations of 3", threes(3), commuting},
		{"even permutations of 4", threes(4), group},
		{"even permutations of 5", threes(5), group},
		{"halves of 4", halved(2), group},
		{"halves of 8", halved(3), group},
		{"a square that is mirrored", mirrored(4), group},
		{"two points that are mirrored", mirrored(2), commuting},
		{"rings of 2, 3 and 5", counters(2, 3, 5), commuting},
		{"rings of 2 and 2", counters(2, 2), commuting},
		{"rings of 4, 4 and 3", counters(4, 4, 3), commuting},
		{"a ring of 63", part{0, 0, 63}.auto(1), commuting},
		{"a ring for two letters", part{-1, 0, 7}.auto(2), commuting},
	} {
		for _, a := range []api.Auto{atFirst(c.a), not(atFirst(c.a)), atLast(c.a)} {
			is(t, c.name, built(t, a), c.should)
		}
		is(t, c.name+", all accepted", built(t, accepting(c.a, func(s int) bool { return true })), strings.Replace(c.should, "central", "central upward downward", 1))
		// The words that are not empty make the group, the empty one is outside it.
		is(t, c.name+", from a state ahead", built(t, late(atFirst(c.a))), strings.TrimPrefix(c.should, "group "))
	}
}

// TestP2103Great: the greatest monoids that Build makes, and automata of as many states as may be.
func TestP2103Great(t *testing.T) {
	for _, c := range []struct {
		name   string
		a      api.Auto
		elems  int
		should string
	}{
		{"512 powers", powers(8), 512, "commutative ds blocks central"},
		{"504 powers of a ring", atFirst(powers(0)), 504, "group commutative ds blocks central"},
		{"three squares", atFirst(together(together(mirrored(4), mirrored(4)), mirrored(4))), 512, "group ds blocks central"},
		{"three rings of 8", atFirst(beside(3, part{0, 0, 8}, part{1, 0, 8}, part{2, 0, 8})), 512, "group commutative ds blocks central"},
		{"three ways of 8", accepting(beside(3, part{0, 7, 1}, part{1, 7, 1}, part{2, 7, 1}), func(s int) bool { return s == 7 }), 512, "commutative counterfree rtrivial ltrivial jtrivial htrivial da ds blocks central upward acom"},
		{"8 letters met", beside(8, part{0, 1, 1}, part{1, 1, 1}, part{2, 1, 1}, part{3, 1, 1}, part{4, 1, 1}, part{5, 1, 1}, part{6, 1, 1}, part{7, 1, 1}), 256, "commutative idempotent semilattice counterfree rtrivial ltrivial jtrivial htrivial da ds blocks central downward acom"},
		{"seen 6", seen(6), 64, "commutative idempotent semilattice counterfree rtrivial ltrivial jtrivial htrivial da ds blocks central upward acom"},
		{"a way of 64", atLast(part{0, 63, 1}.auto(1)), 64, "commutative counterfree rtrivial ltrivial jtrivial htrivial da ds blocks central upward acom"},
		{"rising 7", rising(7), 429, "counterfree rtrivial ltrivial jtrivial htrivial da ds blocks upward"},
		{"rising 7, not", not(rising(7)), 429, "counterfree rtrivial ltrivial jtrivial htrivial da ds blocks downward"},
		{"all maps of 4", atLast(allMaps(4)), 256, ""},
		{"all maps of 4, two times", doubled(atFirst(allMaps(4))), 488, ""},
		{"parts of 4", atLast(partial(4)), 209, "blocks"},
		{"rising 6, two times", doubled(rising(6)), 263, "ds blocks upward"},
	} {
		m := built(t, c.a)
		if m.Len() != c.elems {
			t.Errorf("%s: %d elements", c.name, m.Len())
		}
		is(t, c.name, m, c.should)
	}
}

// TestP2103UpwardAndDownwardOfAny: the order is that of the language, whether the automaton is minimal or not; where all or no words are accepted all elements are at most all.
func TestP2103UpwardAndDownwardOfAny(t *testing.T) {
	for _, a := range []api.Auto{pairs(), turns(3), allMaps(3), rising(4), powers(8), bothEnds(2), partial(3)} {
		for _, accepted := range []bool{false, true} {
			got := classes(t, built(t, accepting(a, func(s int) bool { return accepted })))
			if !got["upward"] || !got["downward"] || got["trivial"] || got["jtrivial"] && !slices.Equal(a.Next, rising(4).Next) {
				t.Errorf("%s, all accepted: %v: %v", brief(a), accepted, got)
			}
		}
	}
	for _, c := range []struct {
		name     string
		a        api.Auto
		up, down bool
	}{
		{"rising 3, two times", doubled(rising(3)), true, false},
		{"rising 3, two times, not", not(doubled(rising(3))), false, true},
		{"rising 3, later", late(rising(3)), true, false},
		{"(ab)*, two times", doubled(pairs()), false, false},
		{"seen 3 beside a ring", joined(seen(3), part{0, 0, 2}.auto(3)), true, false},
		{"seen 3 beside a ring, not", not(joined(seen(3), part{0, 0, 2}.auto(3))), false, true},
		{"a ring beside which there is a state that stays", joined(atFirst(part{0, 0, 2}.auto(1)), still(1, 1)), false, false},
		{"a state that stays beside a ring", joined(still(1, 1), atFirst(part{0, 0, 2}.auto(1))), true, true},
	} {
		got := classes(t, built(t, c.a))
		if got["upward"] != c.up || got["downward"] != c.down {
			t.Errorf("%s: upward %v, downward %v", c.name, got["upward"], got["downward"])
		}
	}
}

// TestP2103SideBySide: of two classes, in one and not in the other.
func TestP2103SideBySide(t *testing.T) {
	for _, c := range []struct{ in, not, text string }{
		{"group", "trivial", "(..)*"}, {"commutative", "trivial", "a"}, {"upward", "trivial", ".*a.*"}, {"downward", "trivial", "b*"},
		{"idempotent", "commutative", "a.*"}, {"commutative", "idempotent", "a"}, {"idempotent", "semilattice", ".*a"}, {"commutative", "semilattice", "(..)*"},
		{"rtrivial", "ltrivial", "a.*"}, {"ltrivial", "rtrivial", ".*a"}, {"rtrivial", "jtrivial", ".b.*"}, {"ltrivial", "jtrivial", ".*b."}, {"da", "rtrivial", "a.*a|a"}, {"da", "ltrivial", "a.*a|a"}, {"htrivial", "rtrivial", "(ab)*"}, {"htrivial", "ltrivial", "(ab)*"},
		{"counterfree", "da", "(ab)*"}, {"ds", "da", "(..)*"}, {"counterfree", "ds", ".*aa.*"}, {"ds", "counterfree", "a(..)*"},
		{"central", "commutative", "ab"}, {"blocks", "central", "(ab)*"}, {"blocks", "group", "ab"}, {"ds", "group", "a.*"}, {"blocks", "ds", "(aa|b)*"}, {"ds", "blocks", ".*a"},
		{"counterfree", "acom", "a.*"}, {"commutative", "acom", "(..)*"}, {"group", "counterfree", "(..)*"}, {"counterfree", "group", "a"}, {"acom", "semilattice", "a"}, {"jtrivial", "semilattice", "b*a*"}, {"jtrivial", "acom", "b*a*"},
		{"jtrivial", "upward", "a"}, {"jtrivial", "downward", "a"}, {"upward", "downward", ".*a.*b.*"}, {"downward", "upward", "b*a*"}, {"upward", "commutative", ".*ab.*"}, {"group", "commutative", ""},
	} {
		a := atFirst(turns(3))
		if c.text != "" {
			a = read(t, 2, c.text)
		}
		m := built(t, a)
		if !test(t, m, c.in) || test(t, m, c.not) {
			t.Errorf("%q: %s %v, %s %v", c.text, c.in, test(t, m, c.in), c.not, test(t, m, c.not))
		}
	}
}
