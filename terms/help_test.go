package terms_test

import (
	"math"
	"slices"
	"strconv"
	"testing"

	"eggbox/api"
	"eggbox/monoid"
	"eggbox/terms"
)

// plain is a side by its definition: a sign with its parts beneath it.
type plain struct {
	sign  api.Sign
	parts []plain
}

func variable(name byte) plain { return plain{sign: api.Sign{Kind: api.Var, Name: name}} }

func one() plain { return plain{sign: api.Sign{Kind: api.One}} }

func mul(first, second plain) plain {
	return plain{api.Sign{Kind: api.Mul}, []plain{first, second}}
}

func omega(part plain) plain { return plain{api.Sign{Kind: api.Omega}, []plain{part}} }

// omegas is a side with so many omegas around it, and row so many x, one behind the other.
func omegas(p plain, times int) plain {
	for range times {
		p = omega(p)
	}
	return p
}

func row(times int) plain {
	out := variable('x')
	for range times - 1 {
		out = mul(out, variable('x'))
	}
	return out
}

func (p plain) list() []api.Sign {
	var out []api.Sign
	for _, part := range p.parts {
		out = append(out, part.list()...)
	}
	return append(out, p.sign)
}

// both is an identity of two sides.
type both struct {
	left, right plain
	less        bool
}

func (b both) id() api.Identity {
	return api.Identity{Left: b.left.list(), Right: b.right.list(), Less: b.less}
}

// leaves are sides of one sign.
func leaves() []plain {
	return []plain{one(), variable('x'), variable('y'), variable('z'), variable('t')}
}

// everySide is each side of at most n signs, of those leaves, by the number of its signs.
func everySide(n int, leaves ...plain) [][]plain {
	out := make([][]plain, n+1)
	out[1] = leaves
	for size := 2; size <= n; size++ {
		for _, p := range out[size-1] {
			out[size] = append(out[size], omega(p))
		}
		for first := 1; first < size-1; first++ {
			for _, p := range out[first] {
				for _, q := range out[size-1-first] {
					out[size] = append(out[size], mul(p, q))
				}
			}
		}
	}
	return out
}

// dice answers numbers that look thrown and are the same at each run.
type dice uint64

func (d *dice) roll() uint64 {
	x := uint64(*d)
	x ^= x << 13
	x ^= x >> 7
	x ^= x << 17
	*d = dice(x)
	return x
}

func (d *dice) below(n int) int { return int(d.roll() >> 11 % uint64(n)) }

// side is one of that many signs; most of its leaves are variables.
func (d *dice) side(signs int) plain {
	switch {
	case signs == 1:
		return leaves()[max(0, d.below(9)-4)]
	case signs == 2 || d.below(3) == 0:
		return omega(d.side(signs - 1))
	}
	first := 1 + d.below(signs-2)
	if d.below(4) == 0 {
		first = min(1+d.below(2), signs-2)
	}
	return mul(d.side(first), d.side(signs-1-first))
}

func (d *dice) both(signs int) both {
	return both{d.side(1 + d.below(signs)), d.side(1 + d.below(signs)), d.below(2) == 0}
}

// sides are of all kinds: all small ones, and thrown ones.
func sides() []plain {
	out := slices.Concat(everySide(4, leaves()...)...)
	out = append(out, slices.Concat(everySide(6, variable('x'), variable('t'))...)...)
	d := dice(88172645463325252)
	for signs := 5; signs < 120; signs++ {
		out = append(out, d.side(signs), d.side(signs), d.side(signs))
	}
	return out
}

// identities are of all kinds, such as may be printed.
func identities() []both {
	all := sides()
	d := dice(19)
	var out []both
	for _, p := range all {
		q := all[d.below(len(all))]
		out = append(out, both{p, q, false}, both{q, p, true})
	}
	small := slices.Concat(everySide(3, leaves()...)...)
	for _, p := range small {
		for _, q := range small {
			out = append(out, both{p, q, false}, both{p, q, true})
		}
	}
	return out
}

// sample is an automaton, and how many elements its monoid has.
type sample struct {
	name  string
	a     api.Auto
	elems int
}

// smallSamples have few elements, samples some of them many.
func smallSamples() []sample {
	return []sample{
		{"the chapter's", pairs(), 6},
		{"(aa)*", part{0, 2}.auto(), 2},
		{"a way into a ring", part{3, 4}.auto(), 7},
		{"one state", still(1, 1), 1},
		{"one state of 8 letters", still(8, 1), 1},
		{"permutations of 3", turns(3), 6},
		{"all maps of 2", allMaps(2), 4},
		{"parts of 2", partial(2), 7},
		{"rising 3", rising(3), 5},
		{"seen 3", seen(3), 8},
		{"abc again and again", around(3), 11},
		{"both ends of 2", bothEnds(2), 5},
	}
}

func samples() []sample {
	return append(smallSamples(),
		sample{"512 powers", powers(8), 512},
		sample{"a way of 63", part{63, 1}.auto(), 64},
		sample{"three squares", together(together(mirrored(4), mirrored(4)), mirrored(4)), 512},
		sample{"permutations of 5", turns(5), 120},
		sample{"all maps of 4", allMaps(4), 256},
		sample{"parts of 4", partial(4), 209},
		sample{"rising 7", rising(7), 429},
		sample{"seen 6", seen(6), 64},
		sample{"both ends of 7", bothEnds(7), 50},
		sample{"8 letters again and again", around(8), 66},
	)
}

// visit goes through samples with their monoids, until one of them fails.
func visit(t *testing.T, all []sample, look func(name string, m *monoid.Monoid)) {
	t.Helper()
	for _, s := range all {
		m := built(t, s.a)
		if m.Len() != s.elems {
			t.Fatalf("%s: %d elements", s.name, m.Len())
		}
		look(s.name, m)
		if t.Failed() {
			return
		}
	}
}

// built is Build where it must be answered.
func built(t *testing.T, a api.Auto) *monoid.Monoid {
	t.Helper()
	out, e := monoid.Build(a)
	if out == nil || e != api.OK {
		t.Fatalf("Build of %d states: %v, %d", len(a.Accept), out != nil, e)
	}
	return out
}

// must is an answer that no error may stand beside.
func must[T any](t *testing.T) func(T, api.Errno) T {
	return func(out T, e api.Errno) T {
		t.Helper()
		if e != api.OK {
			t.Fatalf("error %d, should be OK", e)
		}
		return out
	}
}

// same: are two identities the same?
func same(a, b api.Identity) bool {
	return slices.Equal(a.Left, b.Left) && slices.Equal(a.Right, b.Right) && a.Less == b.Less
}

// isZero: is nothing answered?
func isZero(id api.Identity) bool { return len(id.Left) == 0 && len(id.Right) == 0 && !id.Less }

// reads holds that a text is read as that identity.
func reads(t *testing.T, text string, should api.Identity) {
	t.Helper()
	id, at, e := terms.Parse(text)
	if e != api.OK || at != 0 || !same(id, should) {
		t.Fatalf("Parse(%q): %s, %d, %d; should be %s", short(text), brief(id), at, e, brief(should))
	}
}

// refuses holds that a text is refused so, and nothing is answered beside it.
func refuses(t *testing.T, text string, place int, should api.Errno) {
	t.Helper()
	id, at, e := terms.Parse(text)
	if e != should || at != place || !isZero(id) {
		t.Fatalf("Parse(%q): %s, %d, %d; should be error %d at %d", short(text), brief(id), at, e, should, place)
	}
}

// prints holds that an identity is printed as that text.
func prints(t *testing.T, id api.Identity, should string) {
	t.Helper()
	if s, e := terms.Print(id); s != should || e != api.OK {
		t.Fatalf("Print(%s): %q, %d; should be %q", brief(id), short(s), e, short(should))
	}
}

// unprinted holds Print to an error alone.
func unprinted(t *testing.T, id api.Identity, should api.Errno) {
	t.Helper()
	if s, e := terms.Print(id); s != "" || e != should {
		t.Fatalf("Print(%s): %q, %d; should be error %d", brief(id), short(s), e, should)
	}
}

// isNone holds all calls of an identity to that error of Check's alone.
func isNone(t *testing.T, id api.Identity, should api.Errno) {
	t.Helper()
	if e := terms.Check(id); e != should {
		t.Fatalf("Check(%s): %d; should be %d", brief(id), e, should)
	}
	unprinted(t, id, should)
	if s, e := terms.Vars(id); s != "" || e != should {
		t.Fatalf("Vars(%s): %q, %d; should be error %d", brief(id), s, e, should)
	}
	if out, e := terms.Turn(id); !isZero(out) || e != should {
		t.Fatalf("Turn(%s): %s, %d; should be error %d", brief(id), brief(out), e, should)
	}
}

// isOne holds Check to what may be.
func isOne(t *testing.T, id api.Identity) {
	t.Helper()
	if e := terms.Check(id); e != api.OK {
		t.Fatalf("Check(%s): %d; should be OK", brief(id), e)
	}
}

// unvalued holds Value to an error alone, and unspelt Word.
func unvalued(t *testing.T, m *monoid.Monoid, side []api.Sign, values []int, should api.Errno) {
	t.Helper()
	if i, e := terms.Value(m, side, values); i != 0 || e != should {
		t.Fatalf("Value of %s at %v: %d, %d; should be error %d", signs(side), values[:min(9, len(values))], i, e, should)
	}
}

func unspelt(t *testing.T, k int, side []api.Sign, values []string, omega int, should api.Errno) {
	t.Helper()
	if w, e := terms.Word(k, side, values, omega); w != "" || e != should {
		t.Fatalf("Word of %d letters of %s, omega %d: %q, %d; should be error %d", k, signs(side), omega, short(w), e, should)
	}
}

// spells holds that a side is that word.
func spells(t *testing.T, k int, side []api.Sign, values []string, omega int, should string) {
	t.Helper()
	if w, e := terms.Word(k, side, values, omega); w != should || e != api.OK {
		t.Fatalf("Word of %d letters of %s, omega %d: %q, %d; should be %q", k, signs(side), omega, short(w), e, short(should))
	}
}

// outside are numbers that are no places of n.
func outside(n int) []int {
	var out []int
	for _, i := range []int{-1, -2, -n, n, n + 1, 2*n + 1, 512, 513, 1 << 16, 1<<16 + n, 1 << 32, -1 << 32, math.MinInt, math.MinInt + 1, math.MaxInt} {
		if i < 0 || i >= n {
			out = append(out, i)
		}
	}
	return out
}

// brief, signs and short are the beginning of an identity, a side and a text, so that a failure of a great one can be read.
func brief(id api.Identity) string {
	between := " | "
	if id.Less {
		between = " <| "
	}
	return signs(id.Left) + between + signs(id.Right)
}

func signs(side []api.Sign) string {
	out := "[" + strconv.Itoa(len(side)) + "]"
	for _, s := range side[:min(40, len(side))] {
		out += " " + strconv.Itoa(s.Kind)
		if s.Name != 0 {
			out += strconv.Quote(string([]byte{s.Name}))
		}
	}
	return out
}

func short(text string) string { return text[:min(len(text), 60)] }
