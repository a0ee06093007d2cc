package tests_test

import (
	"fmt"
	"slices"
	"strings"
	"testing"

	"eggbox/api"
	"eggbox/monoid"
	"eggbox/tests"
)

// asked are names of classes, and such as are none.
func asked() []string {
	return append(names(), "star", "", "DA", "d", "trivial ")
}

// portrait is what the calls answer of a monoid, as a text.
func portrait(m *monoid.Monoid) string {
	var out strings.Builder
	l, e := tests.All(m)
	fmt.Fprint(&out, tests.Names(), l, e)
	for _, class := range asked() {
		is, e := tests.Test(m, class)
		texts, wrong := tests.Identities(class)
		fmt.Fprint(&out, "\n", is, e, len(texts), texts, wrong)
	}
	return out.String()
}

// look is what a monoid answers, as a text.
func look(m *monoid.Monoid) string {
	var out strings.Builder
	z, is := m.Zero()
	out.WriteString(fmt.Sprint(m.Auto(), z, is))
	for i := range m.Len() {
		w, _ := m.Word(i)
		accept, _ := m.Accept(i)
		does, _ := m.Trans(i)
		out.WriteString(fmt.Sprint("\n", w, accept, does))
		for j := range m.Len() {
			p, _ := m.Product(i, j)
			out.WriteString(fmt.Sprint(" ", p))
		}
	}
	return out.String()
}

func TestP1TheMonoidIsNotChanged(t *testing.T) {
	visit(t, smallOnes(t), func(name string, m *monoid.Monoid) {
		before := look(m)
		portrait(m)
		if look(m) != before {
			t.Errorf("%s: the monoid was changed", name)
		}
	})
}

// spoil writes over a list and the room behind it.
func spoil(l []string) {
	l = l[:cap(l)]
	for i := range l {
		l[i] = "spoilt"
	}
}

// isNew holds a call to lists of which no two share anything, also where there is room behind them, and that nothing else hangs on.
func isNew(t *testing.T, name string, call func() []string) {
	t.Helper()
	one, two := call(), call()
	kept := slices.Clone(one)
	spoil(two)
	if !slices.Equal(one, kept) || !slices.Equal(call(), kept) {
		t.Fatalf("%s: %v shares memory with another answer", name, kept)
	}
	spoil(one)
	_ = append(one[:0], "written", "behind", "it")
	if !slices.Equal(call(), kept) {
		t.Fatalf("%s: %v shares memory with what is kept", name, kept)
	}
}

func TestP1P2102ListsAreNew(t *testing.T) {
	m := built(t, pairs())
	should := portrait(m)
	isNew(t, "Names", tests.Names)
	for _, class := range names() {
		isNew(t, "Identities of "+class, func() []string { return identities(t, class) })
	}
	// What one class is told by is not what another one is: texts that several have are each one's own.
	var lists [][]string
	for _, class := range names() {
		lists = append(lists, identities(t, class))
	}
	for i, l := range lists {
		spoil(l)
		for j := i + 1; j < len(lists); j++ {
			if !slices.Equal(lists[j], identities(t, names()[j])) {
				t.Fatalf("%s and %s share memory", names()[i], names()[j])
			}
		}
	}
	if portrait(m) != should {
		t.Error("lists were changed, and the calls have other answers")
	}
}

func TestP1P2103ListsAreNew(t *testing.T) {
	visit(t, smallOnes(t), func(name string, m *monoid.Monoid) {
		before := look(m)
		isNew(t, name, func() []string { return all(t, m) })
		l := all(t, m)
		table := tests.Names()
		spoil(l)
		if !slices.Equal(table, names()) {
			t.Errorf("%s: All and Names share memory", name)
		}
		if look(m) != before {
			t.Errorf("%s: a list was changed, and the monoid has other answers", name)
		}
	})
}

// TestP1TheSameAnswerAgain: whatever was asked in between, of the same monoid or of one built again.
func TestP1TheSameAnswerAgain(t *testing.T) {
	all := slices.Concat(smallOnes(t), greatOnes()[:6])
	var monoids []*monoid.Monoid
	var first []string
	for _, s := range all {
		monoids = append(monoids, built(t, s.a))
		first = append(first, portrait(monoids[len(monoids)-1]))
	}
	for i, s := range slices.Backward(all) {
		if portrait(monoids[i]) != first[i] || portrait(built(t, s.a)) != first[i] {
			t.Fatalf("%s: other answers after other calls", s.name)
		}
	}
}

// TestP1OneCallAfterTheOther: Test hangs on no call ahead of it, with whichever class and monoid.
func TestP1OneCallAfterTheOther(t *testing.T) {
	d := dice(77)
	all := smallOnes(t)[:40]
	type question struct {
		m     *monoid.Monoid
		class string
		is    bool
		e     api.Errno
	}
	var questions []question
	for range 600 {
		q := question{m: built(t, all[d.below(len(all))].a), class: asked()[d.below(len(asked()))]}
		if d.below(10) == 0 {
			q.m = nil
		}
		q.is, q.e = tests.Test(q.m, q.class)
		questions = append(questions, q)
	}
	for _, q := range slices.Backward(questions) {
		if is, e := tests.Test(q.m, q.class); is != q.is || e != q.e {
			t.Fatalf("Test of %q: %v, %d; it was %v, %d", q.class, is, e, q.is, q.e)
		}
	}
}

// TestP1ByManyAtOnce: calls of one monoid do not meet one another.
func TestP1ByManyAtOnce(t *testing.T) {
	m := built(t, allMaps(3))
	should := portrait(m)
	answers := make(chan bool)
	for range 8 {
		go func() {
			is := true
			for range 5 {
				is = is && portrait(m) == should
			}
			answers <- is
		}()
	}
	for range 8 {
		if !<-answers {
			t.Error("calls at one time have other answers")
		}
	}
}
