package bits_test

import (
	"fmt"
	"slices"
	"testing"

	"eggbox/api"
	"eggbox/bits"
)

func TestP2_1OfExamples(t *testing.T) {
	s := of(t, 3, 64, 3)
	if s != (api.Set{8, 1}) {
		t.Errorf("Of(3, 64, 3): %v", s)
	}
	if l := bits.List(s); !slices.Equal(l, []int{3, 64}) {
		t.Errorf("List: %v", l)
	}
	if s, e := bits.Of([]int{512}); e != api.ErrRange || s != (api.Set{}) {
		t.Errorf("Of(512): %v, %d", s, e)
	}
	if of(t) != (api.Set{}) || of(t, []int{}...) != (api.Set{}) {
		t.Error("Of(none) is not the empty set")
	}
}

func TestP2_1OfEachNumber(t *testing.T) {
	for i := range 512 {
		var one api.Set
		one[i/64] = 1 << (i % 64)
		if s := of(t, i); s != one {
			t.Errorf("Of(%d): %v", i, s)
		}
		if l := bits.List(one); !slices.Equal(l, []int{i}) {
			t.Errorf("List of %d: %v", i, l)
		}
	}
}

func TestP2_1OfWrong(t *testing.T) {
	for _, i := range outside() {
		for _, list := range [][]int{{i}, {1, i}, {i, 1}, {0, 511, i, 5}} {
			if s, e := bits.Of(list); e != api.ErrRange || s != (api.Set{}) {
				t.Errorf("Of(%v): %v, %d", list, s, e)
			}
		}
	}
}

func TestP2_1OfLongList(t *testing.T) {
	var list []int
	for i := range 5000 {
		list = append(list, (i*37)%512)
	}
	want(t, "Of a long list", of(t, list...), plainBelow(512))
	if _, e := bits.Of(append(list, 512)); e != api.ErrRange {
		t.Errorf("Of a long list with 512 at its end: %d", e)
	}
}

func TestP2_1ListOfSamples(t *testing.T) {
	for _, p := range samples() {
		if l := bits.List(p.packed()); !slices.Equal(l, p.list()) {
			t.Errorf("List: %v, wanted %v", l, p.list())
		}
	}
}

func TestP2_2Has(t *testing.T) {
	if bits.Has(of(t, 3, 64), -1) {
		t.Error("Has(.., -1)")
	}
	for _, p := range samples() {
		s := p.packed()
		for i, in := range p {
			if bits.Has(s, i) != in {
				t.Errorf("Has(%v, %d): %v", p.list(), i, !in)
			}
		}
		for _, i := range outside() {
			if bits.Has(s, i) {
				t.Errorf("Has(%v, %d)", p.list(), i)
			}
		}
	}
}

func TestP2_2WithAndWithout(t *testing.T) {
	for _, p := range samples() {
		s := p.packed()
		for i := range 512 {
			more, less := p, p
			more[i], less[i] = true, false
			with, e1 := bits.With(s, i)
			without, e2 := bits.Without(s, i)
			if e1 != api.OK || e2 != api.OK {
				t.Fatalf("With, Without %d: errors %d, %d", i, e1, e2)
			}
			want(t, fmt.Sprint("With ", i), with, more)
			want(t, fmt.Sprint("Without ", i), without, less)
		}
	}
}

func TestP2_2WithAndWithoutWrong(t *testing.T) {
	for _, p := range samples() {
		for _, i := range outside() {
			if s, e := bits.With(p.packed(), i); e != api.ErrRange || s != (api.Set{}) {
				t.Errorf("With(.., %d): %v, %d", i, s, e)
			}
			if s, e := bits.Without(p.packed(), i); e != api.ErrRange || s != (api.Set{}) {
				t.Errorf("Without(.., %d): %v, %d", i, s, e)
			}
		}
	}
}

func TestP2_3UnionInterMinus(t *testing.T) {
	for _, p := range samples() {
		for _, q := range samples() {
			var union, inter, minus plain
			for i := range p {
				union[i] = p[i] || q[i]
				inter[i] = p[i] && q[i]
				minus[i] = p[i] && !q[i]
			}
			a, b := p.packed(), q.packed()
			want(t, "Union", bits.Union(a, b), union)
			want(t, "Inter", bits.Inter(a, b), inter)
			want(t, "Minus", bits.Minus(a, b), minus)
		}
	}
}

func TestP2_3Below(t *testing.T) {
	for n := range 513 {
		want(t, fmt.Sprint("Below ", n), below(t, n), plainBelow(n))
	}
	for _, n := range edges() {
		if n >= 0 && n <= 512 {
			continue
		}
		if s, e := bits.Below(n); e != api.ErrRange || s != (api.Set{}) {
			t.Errorf("Below(%d): %v, %d", n, s, e)
		}
	}
}
