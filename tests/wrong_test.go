package tests_test

import (
	"slices"
	"strings"
	"testing"

	"eggbox/api"
	"eggbox/monoid"
	"eggbox/tests"
)

// noNames are names of no class: empty, of other letters, with something ahead or behind, beginnings and ends of names, two of them, their identities.
func noNames() []string {
	out := []string{"", " ", "\x00", "star", "x", "1", "x = 1", "=", ";", "x^w", "\xff", "ｇroup", "da\u0301", strings.Repeat("d", 1000), strings.Repeat(" ", 1<<16), strings.Repeat("trivial", 1<<17)}
	for _, name := range names() {
		out = append(out, strings.ToUpper(name), strings.ToUpper(name[:1])+name[1:], name[:len(name)-1]+strings.ToUpper(name[len(name)-1:]))
		for _, more := range []string{" ", "\n", "\t", "\x00", ".", "s", "-", "|", "_"} {
			out = append(out, more+name, name+more, name[:1]+more+name[1:])
		}
		for i := 1; i < len(name); i++ {
			out = append(out, name[:i], name[i:], name[:i]+name[i+1:])
		}
		out = append(out, name+name, name[1:]+name[:1])
		for _, other := range names() {
			out = append(out, name+" "+other, name+other)
		}
	}
	for _, r := range table() {
		out = append(out, r.texts...)
		out = append(out, strings.Join(r.texts, "; "))
	}
	// Some are beginnings of one name, and another name.
	return slices.DeleteFunc(out, func(s string) bool { return slices.Contains(names(), s) })
}

func TestP2102P2103NoClass(t *testing.T) {
	monoids := []*monoid.Monoid{built(t, pairs()), built(t, still(1, 1)), built(t, turns(3)), built(t, powers(8))}
	for _, name := range noNames() {
		identitiesNot(t, name)
		for _, m := range monoids {
			testNot(t, m, name, api.ErrClass)
		}
	}
}

// TestP2102P2103AfterOneThatIsNone: what is none changes nothing.
func TestP2102P2103AfterOneThatIsNone(t *testing.T) {
	m := built(t, pairs())
	should := portrait(m)
	for _, name := range noNames()[:200] {
		identitiesNot(t, name)
		testNot(t, m, name, api.ErrClass)
	}
	isNoMonoid(t, nil)
	if portrait(m) != should {
		t.Error("other answers after names that are none")
	}
}

// isNoMonoid holds Test and All to what they answer of a monoid that is none: this error comes ahead of that of a class that is none.
func isNoMonoid(t *testing.T, m *monoid.Monoid) {
	t.Helper()
	for _, name := range append(noNames(), names()...) {
		testNot(t, m, name, api.ErrArg)
	}
	allNot(t, m)
}

func TestP2103NoMonoid(t *testing.T) {
	isNoMonoid(t, nil)
	isNoMonoid(t, &monoid.Monoid{})
	isNoMonoid(t, new(monoid.Monoid))
	var zero monoid.Monoid
	isNoMonoid(t, &zero)
	unmade, e := monoid.Build(turns(6))
	if e != api.ErrElems {
		t.Errorf("Build of 720 elements: %d", e)
	}
	isNoMonoid(t, unmade)
	unmade, e = monoid.Build(still(1, 65))
	if e != api.ErrStates {
		t.Errorf("Build of 65 states: %d", e)
	}
	isNoMonoid(t, unmade)
	unmade, e = monoid.Build(api.Auto{})
	if e == api.OK {
		t.Errorf("Build of no automaton: %d", e)
	}
	isNoMonoid(t, unmade)
	m := built(t, pairs())
	other := *m
	isNoMonoid(t, &other)
	is(t, "a monoid of which a copy was made", m, "counterfree htrivial blocks")
}

// anyName is a name, one that was changed, or anything else.
func (d *dice) anyName() string {
	name := []byte(names()[d.below(len(names()))])
	switch d.below(6) {
	case 0:
		name[d.below(len(name))] ^= byte(1 << d.below(8))
	case 1:
		name = slices.Delete(name, 0, d.below(len(name)))
	case 2:
		name = slices.Insert(name, d.below(len(name)+1), byte(d.roll()))
	case 3:
		name = nil
		for range d.below(12) {
			name = append(name, byte(d.roll()))
		}
	}
	return string(name)
}

// TestP1EveryInputEndsWithoutPanic: any monoid and any name; each call answers its error alone, in their order.
func TestP1EveryInputEndsWithoutPanic(t *testing.T) {
	d := dice(211)
	monoids := []*monoid.Monoid{nil, {}}
	for _, s := range slices.Concat(smallOnes(t)[:30], others(t)[:20]) {
		monoids = append(monoids, built(t, s.a))
	}
	met := map[api.Errno]int{}
	for range 20000 {
		name, m := d.anyName(), monoids[d.below(len(monoids))]
		known := slices.Contains(names(), name)
		should := api.OK
		switch {
		case m.Len() == 0:
			should = api.ErrArg
		case !known:
			should = api.ErrClass
		}
		met[should]++
		is, e := tests.Test(m, name)
		if e != should || is && e != api.OK {
			t.Fatalf("of %d elements: Test(%q): %v, %d; should be error %d", m.Len(), name, is, e, should)
		}
		if known {
			identities(t, name)
		} else {
			identitiesNot(t, name)
		}
	}
	if min(met[api.OK], met[api.ErrArg], met[api.ErrClass]) < 500 {
		t.Errorf("of the calls %v", met)
	}
}

// TestP2103TheGreatestEnds: each class of the greatest monoids is answered, with the order asked of all states.
func TestP2103TheGreatestEnds(t *testing.T) {
	for _, s := range greatOnes() {
		m := built(t, s.a)
		got := classes(t, m)
		if len(got) != len(all(t, m)) {
			t.Errorf("%s: %v", s.name, got)
		}
	}
}
