package holds_test

import (
	"slices"
	"testing"

	"eggbox/api"
	"eggbox/monoid"
	"eggbox/order"
	"eggbox/terms"
)

// lawful goes through all samples, with identities of at most four variables, or, of many elements, two.
func lawful(t *testing.T, look func(name string, m *monoid.Monoid, id api.Identity)) {
	t.Helper()
	few, two := identities(t, 60, 12, 4), identities(t, 12, 12, 2)
	visit(t, slices.Concat(smallOnes(), greatOnes()), func(name string, m *monoid.Monoid) {
		some := few
		if m.Len() > 20 {
			some = two
		}
		for i, id := range some {
			if m.Len() < 200 || i%3 == 0 {
				look(name, m, id)
			}
		}
	})
}

// next is the assignment behind one, of all of n elements; none behind the last one.
func next(values []int, n int) []int {
	out := slices.Clone(values)
	for i := len(out) - 1; i >= 0; i-- {
		out[i]++
		if out[i] < n {
			return out
		}
		out[i] = 0
	}
	return nil
}

// before is the assignment ahead of one; none ahead of the first one.
func before(values []int, n int) []int {
	out := slices.Clone(values)
	for i := len(out) - 1; i >= 0; i-- {
		out[i]--
		if out[i] >= 0 {
			return out
		}
		out[i] = n - 1
	}
	return nil
}

// some are assignments of all of n elements: all, if they are at most so many, or the first ones, the last ones, and thrown ones.
func some(n, variables, most int) [][]int {
	first, last := make([]int, variables), make([]int, variables)
	for i := range last {
		last[i] = n - 1
	}
	var out [][]int
	for at := first; at != nil && len(out) < most; at = next(at, n) {
		out = append(out, at)
	}
	if len(out) < most {
		return out
	}
	for at := last; len(out) < 2*most; at = before(at, n) {
		out = append(out, at)
	}
	for d := dice(n + variables); len(out) < 3*most; {
		var values []int
		for range variables {
			values = append(values, d.below(n))
		}
		out = append(out, values)
	}
	return out
}

func TestP20_5OneAnswer(t *testing.T) {
	var met tally
	lawful(t, func(name string, m *monoid.Monoid, id api.Identity) {
		got := all(t, m, id)
		met.add(id, got)
		if n := count(t, m, id); got.is != (n == 0) {
			t.Fatalf("%s: Holds(%s) is %v, Count %d", name, show(id), got, n)
		}
		if listed := in(t, m, id, numbers(m.Len())); !listed.same(got) {
			t.Fatalf("%s: HoldsIn(%s) of all is %v, Holds %v", name, show(id), listed, got)
		}
		if got.is {
			return
		}
		if len(got.values) != len(variablesOf(id)) || !fails(t, m, id, got.values) {
			t.Fatalf("%s: Holds(%s) is %v, where it does not fail", name, show(id), got)
		}
		steps := 0
		for at := before(got.values, m.Len()); at != nil && steps < 200; at = before(at, m.Len()) {
			steps++
			if fails(t, m, id, at) {
				t.Fatalf("%s: Holds(%s) is %v, and it fails at %v", name, show(id), got, at)
			}
		}
	})
	met.check(t, 50)
}

// TestP20_5CountIsOfFails: where all assignments may be asked, those at which it fails are as many as Count says.
func TestP20_5CountIsOfFails(t *testing.T) {
	few := identities(t, 40, 10, 3)
	counted := 0
	visit(t, smallOnes(), func(name string, m *monoid.Monoid) {
		for _, id := range few {
			n := len(variablesOf(id))
			if n == 3 && m.Len() > 8 {
				continue
			}
			times := 0
			for _, values := range assignments(numbers(m.Len()), n) {
				if fails(t, m, id, values) {
					times++
				}
			}
			counted += times
			if got := count(t, m, id); got != times {
				t.Fatalf("%s: Count(%s) is %d; it fails at %d", name, show(id), got, times)
			}
		}
	})
	if counted < 20000 {
		t.Errorf("%d failures alone", counted)
	}
}

func TestP20_6SidesThatAreTheSame(t *testing.T) {
	d := dice(206)
	lawful(t, func(name string, m *monoid.Monoid, id api.Identity) {
		for _, less := range []bool{false, true} {
			same := api.Identity{Left: id.Left, Right: slices.Clone(id.Left), Less: less}
			one := api.Identity{Left: id.Right, Right: id.Right, Less: less}
			if !all(t, m, same).is || !all(t, m, one).is || count(t, m, one) > 0 {
				t.Fatalf("%s: %s or %s does not hold", name, show(same), show(one))
			}
			if list := d.from(m.Len(), d.below(9)); !in(t, m, same, list).is || !in(t, m, one, list).is {
				t.Fatalf("%s: %s or %s does not hold in %v", name, show(same), show(one), list)
			}
		}
	})
}

func TestP20_6TurnedRound(t *testing.T) {
	var met tally
	d := dice(207)
	lawful(t, func(name string, m *monoid.Monoid, id api.Identity) {
		id = with(id, false)
		back := exchanged(id)
		got, other := all(t, m, id), all(t, m, back)
		met.add(with(id, true), got)
		if !got.same(other) || count(t, m, id) != count(t, m, back) {
			t.Fatalf("%s: Holds(%s) is %v, turned round %v", name, show(id), got, other)
		}
		list := d.from(m.Len(), d.below(9))
		if got, other := in(t, m, id, list), in(t, m, back, list); !got.same(other) {
			t.Fatalf("%s: HoldsIn(%s, %v) is %v, turned round %v", name, show(id), list, got, other)
		}
		for _, values := range some(m.Len(), len(variablesOf(id)), 15) {
			if fails(t, m, id, values) != fails(t, m, back, values) {
				t.Fatalf("%s: %s fails at %v one way", name, show(id), values)
			}
		}
	})
	met.check(t, 50)
}

func TestP20_7Inside(t *testing.T) {
	holding, failing := 0, 0
	d := dice(208)
	lawful(t, func(name string, m *monoid.Monoid, id api.Identity) {
		whole := all(t, m, id)
		for range 6 {
			list := d.from(m.Len(), d.below(10))
			got := in(t, m, id, list)
			switch {
			case whole.is && !got.is:
				t.Fatalf("%s: %s holds, and not in %v: %v", name, show(id), list, got)
			case got.is:
				holding++
				continue
			}
			failing++
			if len(got.values) != len(variablesOf(id)) || !fails(t, m, id, got.values) {
				t.Fatalf("%s: HoldsIn(%s, %v) is %v, where it does not fail", name, show(id), list, got)
			}
			for _, i := range got.values {
				if !slices.Contains(list, i) {
					t.Fatalf("%s: HoldsIn(%s, %v) is %v", name, show(id), list, got)
				}
			}
			if slices.Compare(got.values, whole.values) < 0 {
				t.Fatalf("%s: HoldsIn(%s, %v) is %v, ahead of %v", name, show(id), list, got, whole)
			}
		}
	})
	if holding < 2000 || failing < 2000 {
		t.Errorf("%d lists in which it holds, %d in which it fails", holding, failing)
	}
}

// TestP20_7PartOfAList: what holds in a list, holds in a part of it.
func TestP20_7PartOfAList(t *testing.T) {
	d := dice(209)
	less := 0
	lawful(t, func(name string, m *monoid.Monoid, id api.Identity) {
		list := d.from(m.Len(), 1+d.below(9))
		part := list[d.below(len(list)):]
		got, inside := in(t, m, id, list), in(t, m, id, part)
		if got.is && !inside.is {
			t.Fatalf("%s: %s holds in %v, and not in %v", name, show(id), list, part)
		}
		if !got.is && inside.is {
			less++
		}
	})
	if less < 200 {
		t.Errorf("%d lists of which a part alone lets it hold", less)
	}
}

// values are those of both sides at an assignment, by terms.
func values(t *testing.T, m *monoid.Monoid, id api.Identity, at []int) (left, right int) {
	t.Helper()
	placed := make([]int, 4)
	for i, name := range []byte(variablesOf(id)) {
		placed[name2place(name)] = at[i]
	}
	return must[int](t)(terms.Value(m, id.Left, placed)), must[int](t)(terms.Value(m, id.Right, placed))
}

func name2place(name byte) int { return slices.Index([]byte("xyzt"), name) }

// TestP20_8BothWays: an identity with Less and the one turned round both hold just where no assignment has values that are not Same.
func TestP20_8BothWays(t *testing.T) {
	few := identities(t, 60, 10, 3)
	bothHold, unlike, oneWay := 0, 0, 0
	visit(t, smallOnes(), func(name string, m *monoid.Monoid) {
		for _, id := range few {
			n := len(variablesOf(id))
			if n == 3 && m.Len() > 8 {
				continue
			}
			same := true
			for _, at := range assignments(numbers(m.Len()), n) {
				left, right := values(t, m, id, at)
				same = same && must[bool](t)(order.Same(m, left, right))
			}
			there, back := all(t, m, with(id, true)).is, all(t, m, exchanged(with(id, true))).is
			if (there && back) != same {
				t.Fatalf("%s: %s holds: %v, turned round: %v, all values are Same: %v", name, show(id), there, back, same)
			}
			equal := all(t, m, with(id, false)).is
			if equal && !same {
				t.Fatalf("%s: %s holds without Less, and not with it", name, show(id))
			}
			switch {
			case same && !equal:
				unlike++
			case same:
				bothHold++
			case there || back:
				oneWay++
			}
		}
	})
	if bothHold < 500 || unlike < 30 || oneWay < 100 {
		t.Errorf("%d hold both ways, %d of them with values that are not equal, %d one way", bothHold+unlike, unlike, oneWay)
	}
}

// TestP20_8Minimal: of a minimal automaton Less both ways is the identity without it.
func TestP20_8Minimal(t *testing.T) {
	few, two := identities(t, 80, 12, 4), identities(t, 12, 12, 2)
	bothHold, oneWay, neither := 0, 0, 0
	visit(t, slices.Concat(smallMinimal(), greatMinimal()), func(name string, m *monoid.Monoid) {
		some := few
		if m.Len() > 20 {
			some = two
		}
		for _, id := range some {
			there, back := all(t, m, with(id, true)), all(t, m, exchanged(with(id, true)))
			if equal := all(t, m, with(id, false)); equal.is != (there.is && back.is) {
				t.Fatalf("%s: %s holds: %v, turned round: %v, without Less: %v", name, show(id), there, back, equal)
			}
			switch {
			case there.is && back.is:
				bothHold++
			case there.is || back.is:
				oneWay++
			default:
				neither++
			}
		}
	})
	if min(bothHold, oneWay, neither) < 100 {
		t.Errorf("%d hold both ways, %d one way, %d neither", bothHold, oneWay, neither)
	}
}

// TestP20_8EachAssignment: without Less an identity fails just where one of the two with Less does, of a minimal automaton; at any, only where one does.
func TestP20_8EachAssignment(t *testing.T) {
	few := identities(t, 40, 10, 4)
	minimal := len(smallMinimal())
	met := 0
	for at, s := range smallOnes() {
		m := built(t, s.a)
		for _, id := range few {
			for _, at2 := range some(m.Len(), len(variablesOf(id)), 10) {
				there, back := fails(t, m, with(id, true), at2), fails(t, m, exchanged(with(id, true)), at2)
				equal := !fails(t, m, with(id, false), at2)
				if equal && (there || back) || at < minimal && !equal && !there && !back {
					t.Fatalf("%s: at %v %s fails: %v, turned round: %v, holds without Less: %v", s.name, at2, show(id), there, back, equal)
				}
				if there != back {
					met++
				}
			}
		}
	}
	if met < 1000 {
		t.Errorf("%d fail one way", met)
	}
}
