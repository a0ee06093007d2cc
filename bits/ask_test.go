package bits_test

import (
	"slices"
	"testing"

	"eggbox/api"
	"eggbox/bits"
)

func TestP2_4Examples(t *testing.T) {
	s := of(t, 3, 64)
	if n, ok := bits.Next(s, 4); n != 64 || !ok {
		t.Errorf("Next(.., 4): %d, %v", n, ok)
	}
	if n, ok := bits.Next(s, 65); n != 0 || ok {
		t.Errorf("Next(.., 65): %d, %v", n, ok)
	}
	if n := bits.Rank(s, 64); n != 1 {
		t.Errorf("Rank(.., 64): %d", n)
	}
	if n := bits.Rank(s, -5); n != 0 {
		t.Errorf("Rank(.., -5): %d", n)
	}
}

func TestP2_4Size(t *testing.T) {
	for _, p := range samples() {
		if n := bits.Size(p.packed()); n != len(p.list()) {
			t.Errorf("Size of %v: %d", p.list(), n)
		}
	}
	if bits.Size(api.Set{}) != 0 || bits.Size(below(t, 512)) != 512 {
		t.Error("Size of none, or of all")
	}
}

func TestP2_4Subset(t *testing.T) {
	for _, p := range samples() {
		for _, q := range samples() {
			all := true
			for i := range p {
				all = all && (!p[i] || q[i])
			}
			if bits.Subset(p.packed(), q.packed()) != all {
				t.Errorf("Subset(%v, %v): %v", p.list(), q.list(), !all)
			}
		}
	}
}

func TestP2_4SubsetByOneNumber(t *testing.T) {
	full := below(t, 512)
	for i := range 512 {
		less, _ := bits.Without(full, i)
		if !bits.Subset(less, full) || bits.Subset(full, less) || bits.Subset(of(t, i), less) {
			t.Errorf("Subset where just %d is missing", i)
		}
	}
}

// plainNext is P2.4's definition.
func plainNext(p plain, from int) (int, bool) {
	for _, i := range p.list() {
		if i >= from {
			return i, true
		}
	}
	return 0, false
}

// plainRank is P2.4's definition.
func plainRank(p plain, i int) int {
	n := 0
	for _, j := range p.list() {
		if j < i {
			n++
		}
	}
	return n
}

// places are all numbers of a set, and the edges beside them.
func places() []int {
	out := edges()
	for i := range 513 {
		out = append(out, i)
	}
	return out
}

func TestP2_4Next(t *testing.T) {
	for _, p := range samples() {
		s := p.packed()
		for _, i := range places() {
			n, ok := bits.Next(s, i)
			if m, is := plainNext(p, i); n != m || ok != is {
				t.Errorf("Next(%v, %d): %d, %v, wanted %d, %v", p.list(), i, n, ok, m, is)
			}
		}
	}
}

func TestP2_4Rank(t *testing.T) {
	for _, p := range samples() {
		s := p.packed()
		for _, i := range places() {
			if n, m := bits.Rank(s, i), plainRank(p, i); n != m {
				t.Errorf("Rank(%v, %d): %d, wanted %d", p.list(), i, n, m)
			}
		}
	}
}

func TestP2_5Examples(t *testing.T) {
	if c := bits.Compare(of(t, 3, 64), of(t, 5)); c != 1 {
		t.Errorf("Compare(of 3 and 64, of 5): %d", c)
	}
	if c := bits.Compare(of(t, 1), of(t, 0, 1)); c != -1 {
		t.Errorf("Compare(of 1, of 0 and 1): %d", c)
	}
}

func TestP2_5Compare(t *testing.T) {
	for _, p := range samples() {
		for _, q := range samples() {
			c := 0
			for i := range p {
				switch {
				case p[i] && !q[i]:
					c = 1
				case q[i] && !p[i]:
					c = -1
				}
			}
			if got := bits.Compare(p.packed(), q.packed()); got != c {
				t.Errorf("Compare(%v, %v): %d, wanted %d", p.list(), q.list(), got, c)
			}
		}
	}
}

func TestP2_5TheGreatestNumberDecides(t *testing.T) {
	for i := range 512 {
		least := of(t, i)
		rest := below(t, i)
		if bits.Compare(least, rest) != 1 || bits.Compare(rest, least) != -1 || bits.Compare(least, least) != 0 {
			t.Errorf("Compare of %d with all numbers below it", i)
		}
	}
}

func TestP2_8ASetIsItsList(t *testing.T) {
	for _, p := range samples() {
		s := p.packed()
		list := bits.List(s)
		if of(t, list...) != s {
			t.Errorf("Of(List(s)) for %v", p.list())
		}
		twice := append(slices.Clone(list), list...)
		slices.Reverse(twice)
		if !slices.Equal(bits.List(of(t, twice...)), list) {
			t.Errorf("List(Of(..)) for the numbers %v, each twice, falling", p.list())
		}
		if bits.Size(s) != len(list) {
			t.Errorf("Size %d, and the list has %d", bits.Size(s), len(list))
		}
		var gone []int
		for i, ok := bits.Next(s, 0); ok; i, ok = bits.Next(s, i+1) {
			gone = append(gone, i)
		}
		if !slices.Equal(gone, list) {
			t.Errorf("Next goes through %v, the list is %v", gone, list)
		}
	}
}

func TestP2_9Laws(t *testing.T) {
	full := below(t, 512)
	for _, p := range samples() {
		for _, q := range samples() {
			a, b := p.packed(), q.packed()
			if bits.Size(bits.Union(a, b))+bits.Size(bits.Inter(a, b)) != bits.Size(a)+bits.Size(b) {
				t.Errorf("sizes of %v, %v", p.list(), q.list())
			}
			if bits.Minus(a, b) != bits.Inter(a, bits.Minus(full, b)) {
				t.Errorf("Minus of %v, %v", p.list(), q.list())
			}
			if bits.Subset(a, b) != (bits.Union(a, b) == b) {
				t.Errorf("Subset and Union of %v, %v", p.list(), q.list())
			}
			if (bits.Compare(a, b) == 0) != (bits.Subset(a, b) && bits.Subset(b, a)) {
				t.Errorf("Compare and Subset of %v, %v", p.list(), q.list())
			}
			if bits.Compare(a, b) != -bits.Compare(b, a) {
				t.Errorf("Compare of %v, %v both ways", p.list(), q.list())
			}
		}
	}
}

func TestP2_9CompareIsAnOrder(t *testing.T) {
	var sets []api.Set
	for _, p := range samples() {
		sets = append(sets, p.packed())
	}
	for _, a := range sets {
		for _, b := range sets {
			for _, c := range sets {
				if bits.Compare(a, b) <= 0 && bits.Compare(b, c) <= 0 && bits.Compare(a, c) > 0 {
					t.Fatalf("Compare goes round: %v, %v, %v", a, b, c)
				}
			}
		}
	}
}

func TestP2_10Rank(t *testing.T) {
	for _, p := range samples() {
		s := p.packed()
		for i := range 513 {
			if bits.Rank(s, i) != bits.Size(bits.Inter(s, below(t, i))) {
				t.Errorf("Rank(%v, %d)", p.list(), i)
			}
		}
		for r, i := range bits.List(s) {
			if bits.Rank(s, i) != r {
				t.Errorf("Rank(%v, %d): it is number %d of the list", p.list(), i, r)
			}
		}
	}
}
