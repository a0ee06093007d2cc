package terms_test

import (
	"fmt"
	"slices"
	"strings"
	"testing"

	"eggbox/api"
	"eggbox/monoid"
	"eggbox/terms"
)

// portrait is what the calls answer of an identity, its sides and its text, as a text.
func portrait(m *monoid.Monoid, id api.Identity, text string, values []int, words []string, times int) string {
	var out strings.Builder
	s, e := terms.Print(id)
	names, wrong := terms.Vars(id)
	turned, more := terms.Turn(id)
	read, place, last := terms.Parse(text)
	out.WriteString(fmt.Sprint(terms.Check(id), s, e, names, wrong, turned, more, read, place, last))
	for _, side := range [][]api.Sign{id.Left, id.Right} {
		i, e := terms.Value(m, side, values)
		w, wrong := terms.Word(2, side, words, times)
		out.WriteString(fmt.Sprint("\n", i, e, w, wrong))
	}
	return out.String()
}

// asked is what portrait is made of.
type asked struct {
	id     api.Identity
	text   string
	values []int
	words  []string
	times  int
}

// questions are right ones and wrong ones.
func questions(m *monoid.Monoid, n int) []asked {
	d := dice(77)
	var out []asked
	for range n {
		b := d.both(20)
		q := asked{id: b.id(), text: d.wholeText(b), times: d.below(5)}
		for range 1 + d.below(5) {
			q.values = append(q.values, d.below(m.Len()+d.below(2)))
			q.words = append(q.words, d.word(2+d.below(10)/9, d.below(4)))
		}
		switch d.below(8) {
		case 0:
			q.text = q.text[d.below(len(q.text)):]
		case 1:
			q.id.Left = q.id.Left[d.below(len(q.id.Left)):]
		case 2:
			q.id.Right[d.below(len(q.id.Right))].Name ^= 1
		}
		out = append(out, q)
	}
	return out
}

func (q asked) portrait(m *monoid.Monoid) string {
	return portrait(m, q.id, q.text, q.values, q.words, q.times)
}

// look is what a monoid answers, as a text.
func look(m *monoid.Monoid) string {
	var out strings.Builder
	z, is := m.Zero()
	out.WriteString(fmt.Sprint(m.Auto(), z, is))
	for i := range m.Len() {
		w, _ := m.Word(i)
		accept, _ := m.Accept(i)
		does, _ := m.Trans(i)
		out.WriteString(fmt.Sprint("\n", w, accept, does))
		for j := range m.Len() {
			p, _ := m.Product(i, j)
			out.WriteString(fmt.Sprint(" ", p))
		}
	}
	return out.String()
}

// roomy is a list with room behind it, in which something stands.
func roomy[T any](l []T, with T) []T {
	out := append(make([]T, 0, len(l)+9), l...)
	for i := range out[len(l):cap(out)] {
		out[len(l):cap(out)][i] = with
	}
	return out
}

func TestP1WhatIsHandedInIsNotChanged(t *testing.T) {
	sign, number, text := api.Sign{Kind: 77, Name: 'q'}, -77, "seventy"
	visit(t, smallSamples(), func(name string, m *monoid.Monoid) {
		before := look(m)
		for _, q := range questions(m, 300) {
			should := q.portrait(m)
			in := asked{api.Identity{Left: roomy(q.id.Left, sign), Right: roomy(q.id.Right, sign), Less: q.id.Less}, q.text, roomy(q.values, number), roomy(q.words, text), q.times}
			left, right := slices.Clone(in.id.Left[:cap(in.id.Left)]), slices.Clone(in.id.Right[:cap(in.id.Right)])
			values, words := slices.Clone(in.values[:cap(in.values)]), slices.Clone(in.words[:cap(in.words)])
			if in.portrait(m) != should {
				t.Fatalf("%s: room behind the lists makes other answers", brief(q.id))
			}
			if !slices.Equal(left, in.id.Left[:cap(in.id.Left)]) || !slices.Equal(right, in.id.Right[:cap(in.id.Right)]) || in.id.Less != q.id.Less {
				t.Fatalf("%s was changed", brief(q.id))
			}
			if !slices.Equal(values, in.values[:cap(in.values)]) || !slices.Equal(words, in.words[:cap(in.words)]) {
				t.Fatalf("%s: the values were changed", brief(q.id))
			}
		}
		if look(m) != before {
			t.Errorf("%s: the monoid was changed", name)
		}
	})
}

// spoil writes over a list and the room behind it.
func spoil(l []api.Sign) {
	l = l[:cap(l)]
	for i := range l {
		l[i] = api.Sign{Kind: -5, Name: 'q'}
	}
}

// isNew holds a call to identities whose sides share nothing with one another, with what was answered before, or with what was handed in.
func isNew(t *testing.T, in api.Identity, call func() api.Identity) {
	t.Helper()
	handed := api.Identity{Left: slices.Clone(in.Left), Right: slices.Clone(in.Right), Less: in.Less}
	one, two := call(), call()
	kept := api.Identity{Left: slices.Clone(one.Left), Right: slices.Clone(one.Right), Less: one.Less}
	spoil(two.Left)
	if !slices.Equal(two.Right, kept.Right) {
		t.Fatalf("the sides of %s share memory", brief(kept))
	}
	spoil(two.Right)
	if !same(one, kept) || !same(call(), kept) {
		t.Fatalf("%s shares memory with another answer", brief(kept))
	}
	spoil(one.Right)
	if !slices.Equal(one.Left, kept.Left) {
		t.Fatalf("the sides of %s share memory", brief(kept))
	}
	spoil(one.Left)
	if !same(call(), kept) {
		t.Fatalf("%s shares memory with what is kept", brief(kept))
	}
	if !same(in, handed) {
		t.Fatalf("%s shares memory with what was handed in", brief(kept))
	}
}

func TestP1SidesAreNew(t *testing.T) {
	for _, b := range identities() {
		id := b.id()
		isNew(t, id, func() api.Identity { return must[api.Identity](t)(terms.Turn(id)) })
		text := b.text()
		isNew(t, id, func() api.Identity { return must[api.Identity](t)(parsed(text)) })
	}
	// Both sides may be handed in as one list.
	for _, p := range sides() {
		l := p.list()
		id := api.Identity{Left: l, Right: l}
		isNew(t, id, func() api.Identity { return must[api.Identity](t)(terms.Turn(id)) })
	}
}

// TestP1NothingIsKept: what was handed in may be changed when the call has answered.
func TestP1NothingIsKept(t *testing.T) {
	for _, b := range identities() {
		id := b.id()
		turned := must[api.Identity](t)(terms.Turn(id))
		text := must[string](t)(terms.Print(id))
		names := must[string](t)(terms.Vars(id))
		w, e := terms.Word(2, id.Left, []string{"a", "b", "ab", ""}, 1)
		spoil(id.Left)
		spoil(id.Right)
		if !same(turned, b.turned().id()) || text != b.text() {
			t.Fatalf("%s: the answers share memory with what was handed in", b.text())
		}
		isNone(t, id, api.ErrTerm)
		again := b.id()
		if must[string](t)(terms.Vars(again)) != names {
			t.Fatalf("%s has other variables", b.text())
		}
		if v, wrong := terms.Word(2, again.Left, []string{"a", "b", "ab", ""}, 1); v != w || wrong != e {
			t.Fatalf("%s has another word", b.text())
		}
	}
}

// TestP1TheSameAnswerAgain: whatever was asked in between, of the same monoid or of one built again.
func TestP1TheSameAnswerAgain(t *testing.T) {
	for _, s := range smallSamples() {
		m := built(t, s.a)
		all := questions(m, 300)
		var first []string
		for _, q := range all {
			first = append(first, q.portrait(m))
		}
		again := built(t, s.a)
		for i, q := range slices.Backward(all) {
			if q.portrait(m) != first[i] || q.portrait(again) != first[i] {
				t.Fatalf("%s: %s has other answers after other calls", s.name, brief(q.id))
			}
		}
	}
}

// TestP1ByManyAtOnce: calls do not meet one another, also those that give up.
func TestP1ByManyAtOnce(t *testing.T) {
	m := built(t, allMaps(3))
	all := questions(m, 200)
	whole := func() string {
		var out strings.Builder
		for _, q := range all {
			out.WriteString(q.portrait(m))
		}
		return out.String()
	}
	should := whole()
	answers := make(chan bool)
	for range 8 {
		go func() { answers <- whole() == should }()
	}
	for range 8 {
		if !<-answers {
			t.Error("calls at one time have other answers")
		}
	}
}

// anySigns is a list of signs, such as are none among them.
func (d *dice) anySigns(wrongOnes []api.Sign) []api.Sign {
	var out []api.Sign
	for range d.below(1 << d.below(10)) {
		s := right()[d.below(7)]
		if d.below(30) == 0 {
			s = wrongOnes[d.below(len(wrongOnes))]
		}
		out = append(out, s)
	}
	return out
}

// sideError is what is wrong with a list as a side, by the definition: parts are taken from behind.
func sideError(side []api.Sign) api.Errno {
	if len(side) > api.MaxSigns {
		return api.ErrSize
	}
	// How many sides must still come about of the signs that stand ahead.
	missing := 1
	for _, s := range slices.Backward(side) {
		at := slices.Index(right(), s)
		if at < 0 || missing == 0 {
			return api.ErrTerm
		}
		missing += map[int]int{api.Mul: 1, api.One: -1, api.Var: -1}[s.Kind]
	}
	if missing != 0 {
		return api.ErrTerm
	}
	return api.OK
}

// TestP1EveryInputEndsWithoutPanic: any signs, texts and numbers; each call answers its error alone, in their order.
func TestP1EveryInputEndsWithoutPanic(t *testing.T) {
	d := dice(4)
	bad := wrong()
	monoids := []*monoid.Monoid{nil, {}}
	for _, s := range smallSamples() {
		monoids = append(monoids, built(t, s.a))
	}
	met := map[api.Errno]int{}
	for range 20000 {
		side := d.anySigns(bad)
		if d.below(2) == 0 {
			side = d.side(1 + d.below(6)).list()
		}
		m := monoids[d.below(len(monoids))]
		var values []int
		var words []string
		for range d.below(6) {
			values = append(values, []int{d.below(2), d.below(m.Len() + 1), int(d.roll()) >> d.below(64)}[d.below(3)])
			words = append(words, []string{d.word(1, d.below(5)), d.word(2, d.below(3)), d.bytes(3)}[d.below(3)])
		}
		k := []int{1, 2, 8, d.below(11) - 1, int(d.roll()) >> d.below(64)}[d.below(5)]
		times := []int{1, 2, d.below(5) - 1, int(d.roll()) >> d.below(64)}[d.below(4)]
		should := valueError(m, side, values)
		met[should]++
		if should != api.OK {
			unvalued(t, m, side, values, should)
		} else if i, e := terms.Value(m, side, values); e != api.OK || i < 0 || i >= m.Len() {
			t.Fatalf("Value of %s at %v: %d, %d", signs(side), values, i, e)
		}
		should = wordError(k, side, words, times)
		met[should]++
		if should != api.OK {
			unspelt(t, k, side, words, times, should)
		} else if w, e := terms.Word(k, side, words, times); (e != api.OK || len(w) > api.MaxLength) && (w != "" || e != api.ErrSize) {
			t.Fatalf("Word of %s: %q, %d", signs(side), short(w), e)
		}
		other := d.anySigns(bad)
		id := api.Identity{Left: side, Right: other, Less: d.below(2) == 0}
		if e, wrong := sideError(side), sideError(other); e == api.ErrSize || wrong == api.ErrSize {
			isNone(t, id, api.ErrSize)
		} else if e != api.OK || wrong != api.OK {
			isNone(t, id, api.ErrTerm)
		} else {
			isOne(t, id)
		}
		text := d.bytes(1 << d.below(12))
		if id, place, e := terms.Parse(text); e != api.OK && (!isZero(id) || place > len(text) || place < 0) {
			t.Fatalf("Parse(%q): %s, %d, %d", short(text), brief(id), place, e)
		}
	}
	for _, e := range []api.Errno{api.OK, api.ErrArg, api.ErrSize, api.ErrTerm, api.ErrNone, api.ErrRange, api.ErrLetters, api.ErrLetter} {
		if met[e] < 100 {
			t.Errorf("of the calls %v", met)
		}
	}
}

// bytes is a text of at most that many bytes, most of them signs.
func (d *dice) bytes(most int) string {
	var out []byte
	for range d.below(most + 1) {
		out = append(out, "xyzt11()^w<= abu"[d.below(16)])
		if d.below(40) == 0 {
			out[len(out)-1] = byte(d.below(256))
		}
	}
	return string(out)
}

// valueError and wordError are what is wrong of what is handed in, the chapter's errors in its order; but for the word's size.
func valueError(m *monoid.Monoid, side []api.Sign, values []int) api.Errno {
	if m.Len() == 0 {
		return api.ErrArg
	}
	return valuesError(side, len(values), func(at int) bool { return values[at] >= 0 && values[at] < m.Len() }, api.ErrRange)
}

func wordError(k int, side []api.Sign, values []string, times int) api.Errno {
	if k < 1 || k > api.MaxLetters {
		return api.ErrLetters
	}
	if e := sideError(side); e != api.OK {
		return e
	}
	if times < 1 {
		return api.ErrArg
	}
	isWord := func(at int) bool { return strings.Trim(values[at], "abcdefgh"[:k]) == "" }
	return valuesError(side, len(values), isWord, api.ErrLetter)
}

func valuesError(side []api.Sign, n int, may func(at int) bool, should api.Errno) api.Errno {
	if e := sideError(side); e != api.OK {
		return e
	}
	out := api.OK
	for _, s := range side {
		if s.Kind != api.Var {
			continue
		}
		if placeOf(s.Name) >= n {
			return api.ErrNone
		}
		if !may(placeOf(s.Name)) {
			out = should
		}
	}
	return out
}
