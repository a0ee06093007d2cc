package holds_test

import (
	"slices"
	"testing"

	"eggbox/api"
	"eggbox/holds"
)

// is holds a verdict: the values are those at which it fails first, none if it holds.
func is(t *testing.T, name string, got verdict, should bool, values ...int) {
	t.Helper()
	if got.is != should || !slices.Equal(got.values, values) {
		t.Errorf("%s is %v; should be %v, %v", name, got, should, values)
	}
}

// numbered holds a number.
func numbered(t *testing.T, name string, got, should int) {
	t.Helper()
	if got != should {
		t.Errorf("%s is %d; should be %d", name, got, should)
	}
}

// failing holds Fails.
func failing(t *testing.T, name string, got, should bool) {
	t.Helper()
	if got != should {
		t.Errorf("%s is %v", name, got)
	}
}

func TestP20_1P20_2P20_3P20_4Examples(t *testing.T) {
	m := built(t, pairs())
	for i, w := range []string{"", "a", "b", "aa", "ab", "ba"} {
		numbered(t, w, must[int](t)(m.Element(w)), i)
	}
	c, p := parsed(t, "xy = yx"), parsed(t, "x^w = x^w x")
	is(t, "Holds(M, C)", all(t, m, c), false, 1, 2)
	numbered(t, "Count(M, C)", count(t, m, c), 10)
	is(t, "Holds(M, P)", all(t, m, p), true)
	numbered(t, "Count(M, P)", count(t, m, p), 0)
	is(t, "HoldsIn(M, C, 0 3 4)", in(t, m, c, []int{0, 3, 4}), true)
	is(t, "HoldsIn(M, C, 4 1)", in(t, m, c, []int{4, 1}), false, 4, 1)
	failsNot(t, m, c, []int{1}, api.ErrSize)
	failsNot(t, m, c, []int{1, 6}, api.ErrRange)
	failing(t, "Fails(M, C, 1 2)", fails(t, m, c, []int{1, 2}), true)
	failing(t, "Fails(M, C, 1 1)", fails(t, m, c, []int{1, 1}), false)
	failing(t, "Fails(M, C, 3 2)", fails(t, m, c, []int{3, 2}), false)
}

// TestP20_2P20_4Less: by chapter 18's examples, aa is at most all, and ab and ba at most "".
func TestP20_2P20_4Less(t *testing.T) {
	m := built(t, pairs())
	down, up := parsed(t, "x <= 1"), parsed(t, "1 <= x")
	is(t, "Holds(M, x <= 1)", all(t, m, down), false, 1)
	numbered(t, "Count(M, x <= 1)", count(t, m, down), 2)
	is(t, "Holds(M, 1 <= x)", all(t, m, up), false, 1)
	numbered(t, "Count(M, 1 <= x)", count(t, m, up), 5)
	is(t, "HoldsIn(M, x <= 1, 3 5 0 4)", in(t, m, down, []int{3, 5, 0, 4}), true)
	is(t, "HoldsIn(M, 1 <= x, 0 5 3)", in(t, m, up, []int{0, 5, 3}), false, 5)
	is(t, "HoldsIn(M, x <= y, 3 1)", in(t, m, parsed(t, "x <= y"), []int{3, 1}), false, 1, 3)
	failing(t, "Fails(M, x <= y, 3 1)", fails(t, m, parsed(t, "x <= y"), []int{3, 1}), false)
	failing(t, "Fails(M, x <= y, 1 3)", fails(t, m, parsed(t, "x <= y"), []int{1, 3}), true)
	failing(t, "Fails(M, y <= x, 3 1)", fails(t, m, parsed(t, "y <= x"), []int{3, 1}), true)
}

// TestP20_1P20_2P20_3P20_4NoVariables: there is one assignment, of no elements, whatever may be put in.
func TestP20_1P20_2P20_3P20_4NoVariables(t *testing.T) {
	for _, s := range smallOnes() {
		m := built(t, s.a)
		for _, text := range []string{"1 = 1", "1 <= 1", "11^w = (1(11))^w", "1^w^w <= 111"} {
			id := parsed(t, text)
			for _, none := range [][]int{nil, {}} {
				failing(t, s.name+": Fails of "+text, fails(t, m, id, none), false)
				is(t, s.name+": HoldsIn of "+text, in(t, m, id, none), true)
			}
			is(t, s.name+": Holds of "+text, all(t, m, id), true)
			numbered(t, s.name+": Count of "+text, count(t, m, id), 0)
			is(t, s.name+": HoldsIn of "+text, in(t, m, id, []int{m.Len() - 1, 0, 0}), true)
			is(t, s.name+": HoldsIn of "+text, in(t, m, id, make([]int, 5000)), true)
			failsNot(t, m, id, []int{0}, api.ErrSize)
			failsNot(t, m, id, []int{-1}, api.ErrSize)
			failsNot(t, m, id, make([]int, 4), api.ErrSize)
			holdsNotIn(t, m, id, []int{0, m.Len()}, api.ErrRange)
		}
	}
}

// TestP20_1P20_2P20_3VariablesThatDoNotOccur: an assignment has an element for y and one for t, and none for others.
func TestP20_1P20_2P20_3VariablesThatDoNotOccur(t *testing.T) {
	m := built(t, pairs())
	id := parsed(t, "t = y t")
	failing(t, "Fails of y for 4, t for 1", fails(t, m, id, []int{4, 1}), false)
	failing(t, "Fails of y for 1, t for 4", fails(t, m, id, []int{1, 4}), true)
	failsNot(t, m, id, []int{0, 4, 0, 1}, api.ErrSize)
	failsNot(t, m, id, []int{4}, api.ErrSize)
	failsNot(t, m, id, []int{4, 0, 1}, api.ErrSize)
	is(t, "Holds of t = y t", all(t, m, id), false, 1, 0)
	is(t, "Holds of y = y t", all(t, m, parsed(t, "y = y t")), false, 0, 1)
	is(t, "HoldsIn of t = y t", in(t, m, id, []int{3, 1, 4}), false, 3, 1)
	is(t, "HoldsIn of z = z z", in(t, m, parsed(t, "z = z z"), []int{3, 4, 2, 1}), false, 2)
	for _, name := range []string{"x", "y", "z", "t"} {
		id := parsed(t, name+" = 1")
		is(t, "Holds of "+name+" = 1", all(t, m, id), false, 1)
		numbered(t, "Count of "+name+" = 1", count(t, m, id), 5)
		failing(t, "Fails of "+name+" = 1", fails(t, m, id, []int{5}), true)
		failsNot(t, m, id, nil, api.ErrSize)
		failsNot(t, m, id, []int{5, 5}, api.ErrSize)
	}
}

// TestP20_3EmptyList: with variables there is no assignment at all.
func TestP20_3EmptyList(t *testing.T) {
	for _, s := range smallOnes() {
		m := built(t, s.a)
		for _, text := range known() {
			for _, none := range [][]int{nil, {}, make([]int, 0, 9)} {
				is(t, s.name+": HoldsIn of "+text, in(t, m, parsed(t, text), none), true)
			}
		}
	}
}

// TestP20_3ElementsTwice: an element that stands in the list again stands where it stood first.
func TestP20_3ElementsTwice(t *testing.T) {
	m := built(t, pairs())
	c := parsed(t, "xy = yx")
	// Of 0 "", 1 a, 2 b, 3 aa, 4 ab, 5 ba the first two that are unlike in the list's order.
	is(t, "HoldsIn of 0 5 1 5 2", in(t, m, c, []int{0, 5, 1, 5, 2}), false, 5, 1)
	is(t, "HoldsIn of 5 0 2 0 1 2 5", in(t, m, c, []int{5, 0, 2, 0, 1, 2, 5}), false, 5, 2)
	is(t, "HoldsIn of 0 1 1 0 1", in(t, m, c, []int{0, 1, 1, 0, 1}), true)
	is(t, "HoldsIn of 3 3 3 4 4 2 4", in(t, m, c, []int{3, 3, 3, 4, 4, 2, 4}), false, 4, 2)
	is(t, "HoldsIn of 2 1 2", in(t, m, c, []int{2, 1, 2}), false, 2, 1)
	is(t, "HoldsIn of 1 2 1", in(t, m, c, []int{1, 2, 1}), false, 1, 2)
	id := parsed(t, "x = xx")
	is(t, "HoldsIn of 5 5 2 1 2", in(t, m, id, []int{5, 5, 2, 1, 2}), false, 2)
	is(t, "HoldsIn of 5 5 1 2 1", in(t, m, id, []int{5, 5, 1, 2, 1}), false, 1)
	// Many times: as many assignments as the list has are counted, but no more are tried than there are elements.
	list := make([]int, 1<<23)
	for i := range list {
		list[i] = []int{0, 3, 5, 4}[i%4]
	}
	is(t, "HoldsIn of four, again and again", in(t, m, id, list), true)
	list[len(list)-1] = 2
	is(t, "HoldsIn of four, and another one", in(t, m, id, list), false, 2)
}

// TestP20_2P20_3FirstAndLast: the least assignment at which an identity fails is the first one, the last one, one in the midst.
func TestP20_2P20_3FirstAndLast(t *testing.T) {
	m := built(t, pairs())
	for _, c := range []struct {
		text  string
		list  []int
		least []int
	}{
		{"x = xx", []int{1, 0, 2, 3}, []int{1}},
		{"x = xx", []int{0, 3, 4, 5, 1}, []int{1}},
		{"x = xx", []int{0, 3, 2, 5, 1}, []int{2}},
		{"x = 1", []int{0, 5}, []int{5}},
		{"xy = 1", []int{5, 0, 1}, []int{5, 5}},
		{"xy = yxx", []int{1, 3, 0}, []int{1, 0}},
		{"xyz = 1", []int{2}, []int{2, 2, 2}},
		{"xyzt = 1", []int{2, 0}, []int{2, 2, 2, 2}},
		{"xyzt = tzyx", []int{0, 3}, nil},
		{"y <= t", []int{3, 1}, []int{1, 3}},
		{"1 <= x y z t", []int{3, 0}, []int{3, 3, 3, 3}},
	} {
		is(t, "HoldsIn of "+c.text, in(t, m, parsed(t, c.text), c.list), c.least == nil, c.least...)
	}
	// a a is not a a a, but all else is the zero: the last assignment of two, three and four variables alone.
	way := built(t, atLast(part{0, 63, 1}.auto(1)))
	zero := 63
	for _, c := range []struct {
		text  string
		least []int
	}{{"xx = x", []int{1}}, {"xy = yxx", []int{1, 1}}, {"xyz = zyxx", []int{1, 1, 1}}, {"xyzt = xyzzt", []int{1, 1, 1, 1}}} {
		is(t, "HoldsIn of "+c.text, in(t, way, parsed(t, c.text), []int{zero, 1}), false, c.least...)
		is(t, "HoldsIn of "+c.text, in(t, way, parsed(t, c.text), []int{1, zero}), false, c.least...)
		is(t, "HoldsIn of "+c.text, in(t, way, parsed(t, c.text), []int{zero}), true)
	}
	even := built(t, atFirst(part{0, 0, 2}.auto(1)))
	is(t, "Holds of x = 1", all(t, even, parsed(t, "x = 1")), false, 1)
	is(t, "Holds of x = xyy", all(t, even, parsed(t, "x = xyy")), true)
	is(t, "Holds of x^w = x^w x", all(t, even, parsed(t, "x^w = x^w x")), false, 1)
	is(t, "Holds of xyz = 1", all(t, even, parsed(t, "xyz = 1")), false, 0, 0, 1)
	six := built(t, seen(6))
	is(t, "HoldsIn of all but the last", in(t, six, parsed(t, "x x <= x"), numbers(64)), true)
	is(t, "Holds of x = y x", all(t, six, parsed(t, "x = y x")), false, 0, 1)
	is(t, "Holds of x y = x", all(t, six, parsed(t, "x y = x")), false, 0, 1)
}

// TestP20_2P20_4OneElement: all holds.
func TestP20_2P20_4OneElement(t *testing.T) {
	d := dice(1)
	for k := 1; k <= 8; k++ {
		for _, a := range []api.Auto{still(k, 1), not(still(k, 1)), still(k, 7)} {
			m := built(t, a)
			for range 50 {
				id := d.id(30, "xyzt")
				is(t, show(id), all(t, m, id), true)
				is(t, show(id), in(t, m, id, []int{0, 0}), true)
				numbered(t, show(id), count(t, m, id), 0)
				failing(t, show(id), fails(t, m, id, make([]int, len(variablesOf(id)))), false)
			}
		}
	}
}

// looped are monoids of so many powers of one letter.
func looped(n int) api.Auto {
	return beside(1, part{0, n - 252, 4}, part{0, 0, 7}, part{0, 0, 9})
}

// TestP20_2P20_4MostWork: 64^4 and 256^3 assignments are MaxWork; of one element more there are too many.
func TestP20_2P20_4MostWork(t *testing.T) {
	two, three, four := parsed(t, "xy = yx"), parsed(t, "xyz = zyx"), parsed(t, "xyzt = tzyx")
	ring := built(t, atFirst(part{0, 0, 64}.auto(1)))
	is(t, "Holds of 64^4", all(t, ring, four), true)
	numbered(t, "Count of 64^4", count(t, ring, four), 0)
	is(t, "Holds of 64^4, with Less", all(t, ring, with(four, true)), true)
	// The last variable alone, or the first one: each power a^i but a^0.
	numbered(t, "Count of 64^4", count(t, ring, parsed(t, "xyz = xyzt")), 64*64*64*63)
	numbered(t, "Count of 64^4", count(t, ring, parsed(t, "yzt = xyzt")), 64*64*64*63)
	numbered(t, "Count of 64^4", count(t, ring, parsed(t, "x = y z^w t^w")), 64*64*64*63)
	is(t, "Holds of 64^4", all(t, ring, parsed(t, "x = x^w x (yzt)^w")), true)
	more := built(t, beside(1, part{0, 0, 5}, part{0, 0, 13}))
	numbered(t, "elements", more.Len(), 65)
	holdsNot(t, more, four, api.ErrWork)
	holdsNot(t, more, with(four, true), api.ErrWork)
	holdsNot(t, more, parsed(t, "x y z t = x y z t"), api.ErrWork)
	is(t, "Holds of 65^3", all(t, more, three), true)
	three256 := built(t, looped(256))
	numbered(t, "elements", three256.Len(), 256)
	is(t, "Holds of 256^3", all(t, three256, three), true)
	numbered(t, "Count of 256^3", count(t, three256, three), 0)
	holdsNot(t, three256, four, api.ErrWork)
	three257 := built(t, looped(257))
	numbered(t, "elements", three257.Len(), 257)
	holdsNot(t, three257, three, api.ErrWork)
	holdsNot(t, three257, parsed(t, "t = x t^w z"), api.ErrWork)
	is(t, "Holds of 257^2", all(t, three257, two), true)
	for _, a := range []api.Auto{powers(8), together(together(mirrored(4), mirrored(4)), mirrored(4))} {
		m := built(t, a)
		numbered(t, "elements", m.Len(), 512)
		holdsNot(t, m, four, api.ErrWork)
		holdsNot(t, m, three, api.ErrWork)
		holdsNot(t, m, parsed(t, "z <= y t"), api.ErrWork)
	}
	is(t, "Holds of 512^2", all(t, built(t, powers(8)), two), true)
	numbered(t, "Count of 512^2", count(t, built(t, powers(8)), parsed(t, "x = y")), 512*511)
}

// listOf is of that length, and has so many elements.
func listOf(length, elements int) []int {
	out := make([]int, length)
	for i := range out {
		out[i] = i % elements
	}
	return out
}

// TestP20_3MostWork: assignments are counted by the list's length, also where it has elements again.
func TestP20_3MostWork(t *testing.T) {
	m := built(t, powers(8))
	one, two, three, four := parsed(t, "x x^w = x^w x"), parsed(t, "y t = t y"), parsed(t, "x z t = t z x"), parsed(t, "xyzt = tzyx")
	for _, c := range []struct {
		id       api.Identity
		most     int
		elements int
	}{{four, 64, 64}, {four, 64, 1}, {three, 256, 256}, {three, 256, 5}, {two, 4096, 512}, {two, 4096, 2}, {one, 1 << 24, 512}} {
		for _, less := range []bool{false, true} {
			id := with(c.id, less)
			is(t, "HoldsIn of MaxWork: "+show(id), in(t, m, id, listOf(c.most, c.elements)), true)
			holdsNotIn(t, m, id, listOf(c.most+1, c.elements), api.ErrWork)
			holdsNotIn(t, m, id, listOf(c.most+c.most/16+1, 1), api.ErrWork)
		}
		is(t, "HoldsIn of one less: "+show(c.id), in(t, m, c.id, listOf(c.most-1, 2)), true)
	}
	// Their number is past what 64 bits hold: 2^64, 2^66, 2^80, and such as would come to little.
	for _, length := range []int{1 << 16, 1 << 20, 1<<16 + 1, 3 << 15} {
		holdsNotIn(t, m, four, listOf(length, 1), api.ErrWork)
		holdsNotIn(t, m, three, listOf(length, 1), api.ErrWork)
	}
	holdsNotIn(t, m, three, listOf(1<<22, 1), api.ErrWork)
	holdsNotIn(t, m, four, listOf(1<<22, 1), api.ErrWork)
	// Without variables there is one assignment alone.
	is(t, "HoldsIn of a long list, no variables", in(t, m, parsed(t, "1 = 1"), listOf(1<<24+1, 3)), true)
}

// TestP20_3RangeAheadOfWork: that there is what is no element is told first, wherever it stands.
func TestP20_3RangeAheadOfWork(t *testing.T) {
	m := built(t, pairs())
	four := parsed(t, "xyzt = tzyx")
	for _, length := range []int{1, 2, 64, 65, 70000} {
		for _, at := range []int{0, length / 2, length - 1} {
			for _, none := range outside(6) {
				list := listOf(length, 6)
				list[at] = none
				holdsNotIn(t, m, four, list, api.ErrRange)
			}
		}
	}
}

// TestP20_1SizeAheadOfRange: how many values there are is told first.
func TestP20_1SizeAheadOfRange(t *testing.T) {
	m := built(t, pairs())
	for _, text := range known() {
		id := parsed(t, text)
		n := len(variablesOf(id))
		for size := range 9 {
			for _, none := range append(outside(6), 0) {
				values := make([]int, size)
				for at := range values {
					values[at] = none
				}
				switch {
				case size != n:
					failsNot(t, m, id, values, api.ErrSize)
				case size > 0 && none != 0:
					failsNot(t, m, id, values, api.ErrRange)
					for at := range values {
						one := make([]int, size)
						one[at] = none
						failsNot(t, m, id, one, api.ErrRange)
					}
				default:
					if is, e := holds.Fails(m, id, values); is || e != api.OK {
						t.Errorf("Fails(%s, %v): %v, %d", text, values, is, e)
					}
				}
			}
		}
	}
}
