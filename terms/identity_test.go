package terms_test

import (
	"math"
	"slices"
	"strings"
	"testing"

	"eggbox/api"
	"eggbox/terms"
)

// right are the signs that may be, wrong some that may not.
func right() []api.Sign {
	return []api.Sign{{Kind: api.One}, {Kind: api.Var, Name: 'x'}, {Kind: api.Var, Name: 'y'}, {Kind: api.Var, Name: 'z'}, {Kind: api.Var, Name: 't'}, {Kind: api.Mul}, {Kind: api.Omega}}
}

func wrong() []api.Sign {
	var out []api.Sign
	for _, kind := range []int{0, -1, 5, 6, -2, 1 << 8, 1<<8 + api.One, 1<<32 + api.Var, math.MinInt, math.MaxInt} {
		for _, name := range []byte{0, 'x', 1} {
			out = append(out, api.Sign{Kind: kind, Name: name})
		}
	}
	for _, kind := range []int{api.One, api.Mul, api.Omega} {
		for _, name := range []byte{'x', 'y', 'z', 't', 'w', '1', ' ', 1, 255} {
			out = append(out, api.Sign{Kind: kind, Name: name})
		}
	}
	for name := range 256 {
		if !strings.Contains("xyzt", string(rune(name))) {
			out = append(out, api.Sign{Kind: api.Var, Name: byte(name)})
		}
	}
	return out
}

func TestP1902Examples(t *testing.T) {
	x := []api.Sign{{Kind: api.Var, Name: 'x'}}
	isOne(t, api.Identity{Left: x, Right: x})
	isOne(t, api.Identity{Left: x, Right: x, Less: true})
	isNone(t, api.Identity{}, api.ErrTerm)
	isNone(t, api.Identity{Less: true}, api.ErrTerm)
	isNone(t, api.Identity{Left: x}, api.ErrTerm)
	isNone(t, api.Identity{Right: x}, api.ErrTerm)
	isNone(t, api.Identity{Left: []api.Sign{}, Right: x}, api.ErrTerm)
}

// TestP1902ByDefinition: of all lists of few signs just the sides may be, on whichever side they stand.
func TestP1902ByDefinition(t *testing.T) {
	may := map[string]bool{}
	for _, p := range slices.Concat(everySide(5, leaves()...)...) {
		may[signs(p.list())] = true
	}
	x := variable('x').list()
	met := 0
	var longer func(side []api.Sign)
	longer = func(side []api.Sign) {
		for _, id := range []api.Identity{{Left: side, Right: x}, {Left: x, Right: side}, {Left: side, Right: side, Less: true}} {
			if may[signs(side)] {
				met++
				isOne(t, id)
			} else {
				isNone(t, id, api.ErrTerm)
			}
		}
		if len(side) < 5 {
			for _, s := range right() {
				longer(append(slices.Clone(side), s))
			}
		}
	}
	longer(nil)
	if met != 3*len(may) || met < 1000 {
		t.Errorf("%d of %d sides were met", met, len(may))
	}
}

// TestP1902WrongSigns: one of them is enough, wherever it stands.
func TestP1902WrongSigns(t *testing.T) {
	x := variable('x').list()
	for _, p := range slices.Concat(everySide(4, one(), variable('y'))...) {
		side := p.list()
		for at := range side {
			for _, s := range wrong() {
				spoilt := slices.Clone(side)
				spoilt[at] = s
				isNone(t, api.Identity{Left: spoilt, Right: x}, api.ErrTerm)
				isNone(t, api.Identity{Left: x, Right: spoilt}, api.ErrTerm)
			}
		}
	}
}

// TestP1902Parts: sides with a sign more or less, or two signs changed about.
func TestP1902Parts(t *testing.T) {
	x := variable('x').list()
	for _, p := range sides() {
		side := p.list()
		isOne(t, api.Identity{Left: side, Right: x})
		isNone(t, api.Identity{Left: append(slices.Clone(side), api.Sign{Kind: api.Mul}), Right: x}, api.ErrTerm)
		isNone(t, api.Identity{Left: append(slices.Clone(side), x...), Right: x}, api.ErrTerm)
		isNone(t, api.Identity{Left: x, Right: append(slices.Clone(x), side...)}, api.ErrTerm)
		isNone(t, api.Identity{Left: x, Right: append([]api.Sign{{Kind: api.Omega}}, side...)}, api.ErrTerm)
		isNone(t, api.Identity{Left: side, Right: side[1:]}, api.ErrTerm)
		if last := side[len(side)-1]; last.Kind == api.Mul {
			isNone(t, api.Identity{Left: side[:len(side)-1], Right: x}, api.ErrTerm)
		}
	}
}

func TestP1902Size(t *testing.T) {
	x := variable('x')
	for _, p := range []plain{omegas(x, 399), omega(row(200)), omegas(row(100), 201), mul(omegas(x, 397), x), mul(x, omegas(x, 397))} {
		full := p.list()
		if len(full) != api.MaxSigns {
			t.Fatalf("%d signs", len(full))
		}
		isOne(t, api.Identity{Left: full, Right: x.list()})
		isOne(t, api.Identity{Left: x.list(), Right: full})
		isOne(t, api.Identity{Left: full, Right: full, Less: true})
		more := omega(p).list()
		for _, other := range [][]api.Sign{x.list(), full, more, nil, full[:399], {{Kind: 9}}} {
			// It comes ahead of what is no side.
			isNone(t, api.Identity{Left: more, Right: other}, api.ErrSize)
			isNone(t, api.Identity{Left: other, Right: more}, api.ErrSize)
		}
		isNone(t, api.Identity{Left: full, Right: full[1:]}, api.ErrTerm)
	}
	isNone(t, api.Identity{Left: make([]api.Sign, 400), Right: x.list()}, api.ErrTerm)
	isNone(t, api.Identity{Left: make([]api.Sign, 401), Right: x.list()}, api.ErrSize)
	isNone(t, api.Identity{Left: make([]api.Sign, 1<<20), Right: nil}, api.ErrSize)
	isNone(t, api.Identity{Left: nil, Right: make([]api.Sign, 1<<20)}, api.ErrSize)
}

// text is the document's sentence on what a side is printed as, word for word.
func (p plain) text() string {
	switch p.sign.Kind {
	case api.One:
		return "1"
	case api.Var:
		return string([]byte{p.sign.Name})
	case api.Omega:
		if part := p.parts[0]; part.sign.Kind == api.Mul {
			return "(" + part.text() + ")^w"
		}
		return p.parts[0].text() + "^w"
	}
	if second := p.parts[1]; second.sign.Kind == api.Mul {
		return p.parts[0].text() + "(" + second.text() + ")"
	}
	return p.parts[0].text() + p.parts[1].text()
}

func (b both) text() string {
	if b.less {
		return b.left.text() + " <= " + b.right.text()
	}
	return b.left.text() + " = " + b.right.text()
}

func TestP1904Examples(t *testing.T) {
	x, y, z, v := variable('x'), variable('y'), variable('z'), variable('t')
	prints(t, both{mul(x, mul(y, z)), one(), false}.id(), "x(yz) = 1")
	for should, p := range map[string]plain{
		"1": one(), "t": v, "xy": mul(x, y), "xyz": mul(mul(x, y), z), "x(yz)t": mul(mul(x, mul(y, z)), v), "x(y(zt))": mul(x, mul(y, mul(z, v))),
		"xy(zt)": mul(mul(x, y), mul(z, v)), "1^w": omega(one()), "x^w": omega(x), "x^w^w": omega(omega(x)), "(xy)^w": omega(mul(x, y)), "(xy)^w^w": omega(omega(mul(x, y))),
		"x^wy": mul(omega(x), y), "xy^w": mul(x, omega(y)), "x(yz)^w": mul(x, omega(mul(y, z))), "(x(yz))^w": omega(mul(x, mul(y, z))), "11": mul(one(), one()), "(1x)^w1": mul(omega(mul(one(), x)), one()),
		"(xy)^wx": mul(omega(mul(x, y)), x), "x(y(zt)^w)": mul(x, mul(y, omega(mul(z, v)))), "((xy)^w(yx)^w(xy)^w)^w": omega(mul(mul(omega(mul(x, y)), omega(mul(y, x))), omega(mul(x, y)))),
	} {
		prints(t, both{p, y, false}.id(), should+" = y")
		prints(t, both{y, p, true}.id(), "y <= "+should)
		prints(t, both{p, p, true}.id(), should+" <= "+should)
	}
}

func TestP1904ByDefinition(t *testing.T) {
	for _, b := range identities() {
		prints(t, b.id(), b.text())
	}
}

func TestP1904Size(t *testing.T) {
	x, y, z := variable('x'), variable('y'), variable('z')
	// Of 799 bytes, of 197 and 198.
	long, odd, even := omegas(x, 399), omegas(z, 98), mul(y, omegas(z, 98))
	for _, c := range []struct {
		b    both
		size int
	}{
		{both{long, odd, false}, 999}, {both{odd, long, true}, 1000}, {both{long, even, false}, 1000}, {both{even, long, false}, 1000},
		{both{long, even, true}, 1001}, {both{even, long, true}, 1001}, {both{long, mul(x, even), false}, 1003}, {both{long, mul(y, mul(y, odd)), false}, 1003},
		{both{long, mul(mul(y, y), odd), false}, 1001}, {both{long, omega(odd), false}, 1001}, {both{long, long, false}, 1601}, {both{long, long, true}, 1602}, {both{row(200), row(200), true}, 404},
	} {
		text := c.b.text()
		if len(text) != c.size {
			t.Fatalf("the text of %s has %d bytes", brief(c.b.id()), len(text))
		}
		isOne(t, c.b.id())
		if c.size <= api.MaxText {
			prints(t, c.b.id(), text)
			reads(t, text, c.b.id())
		} else {
			unprinted(t, c.b.id(), api.ErrSize)
		}
	}
	// Brackets count, too: each part is the second one of the next.
	nest := x
	for range 199 {
		nest = mul(x, nest)
	}
	prints(t, both{nest, x, false}.id(), both{nest, x, false}.text())
	unprinted(t, both{nest, nest, false}.id(), api.ErrSize)
}

func TestP1905Vars(t *testing.T) {
	for text, should := range map[string]string{
		"y^w = x y": "xy", "1 = 1": "", "1^w <= 1 1": "", "t = 1": "t", "1 = t": "t", "t z y x = 1": "xyzt", "tt = xx": "xt", "y = z": "yz", "z <= y": "yz", "(t(zx)^w)^w = z": "xzt", "x = x": "x",
	} {
		if s, e := terms.Vars(must[api.Identity](t)(parsed(text))); s != should || e != api.OK {
			t.Errorf("Vars of %q: %q, %d; should be %q", text, s, e, should)
		}
	}
	for _, b := range identities() {
		should := ""
		for _, name := range "xyzt" {
			if strings.ContainsRune(b.text(), name) {
				should += string(name)
			}
		}
		if s, e := terms.Vars(b.id()); s != should || e != api.OK {
			t.Fatalf("Vars of %s: %q, %d", b.text(), s, e)
		}
	}
	// Also where the text would be too long.
	long := both{mul(omegas(variable('t'), 390), variable('y')), omegas(variable('x'), 399), true}
	if s, e := terms.Vars(long.id()); s != "xyt" || e != api.OK {
		t.Errorf("Vars of a long one: %q, %d", s, e)
	}
}

func (p plain) turned() plain {
	out := plain{sign: p.sign}
	for _, part := range slices.Backward(p.parts) {
		out.parts = append(out.parts, part.turned())
	}
	return out
}

func (b both) turned() both { return both{b.left.turned(), b.right.turned(), b.less} }

func TestP1905Turn(t *testing.T) {
	turns := func(id, should api.Identity) {
		t.Helper()
		if out, e := terms.Turn(id); !same(out, should) || e != api.OK {
			t.Fatalf("Turn(%s): %s, %d; should be %s", brief(id), brief(out), e, brief(should))
		}
	}
	for text, should := range map[string]string{
		"(xy)^w x = (xy)^w": "x(yx)^w = (yx)^w", "xyz <= 1": "z(yx) <= 1", "x(yz) = xyz": "zyx = z(yx)", "x = y": "x = y", "1 <= x^w": "1 <= x^w", "1x = t": "x1 = t", "xy^w = x^wy": "y^wx = yx^w",
	} {
		id := must[api.Identity](t)(parsed(text))
		turns(id, must[api.Identity](t)(parsed(should)))
		prints(t, must[api.Identity](t)(terms.Turn(id)), should)
	}
	for _, b := range identities() {
		turns(b.id(), b.turned().id())
	}
	long := both{mul(omegas(variable('t'), 390), variable('y')), row(200), true}
	turns(long.id(), long.turned().id())
}

func TestP1908PrintedIsRead(t *testing.T) {
	for _, b := range identities() {
		reads(t, must[string](t)(terms.Print(b.id())), b.id())
	}
}

func TestP1908ReadIsPrinted(t *testing.T) {
	other := 0
	for text, id := range thrownTexts(3000, 60) {
		s, e := terms.Print(must[api.Identity](t)(parsed(text)))
		if e == api.ErrSize {
			continue
		}
		if e != api.OK || len(s) > len(text)+4 {
			t.Fatalf("%q is printed as %q, %d", text, s, e)
		}
		if s != text {
			other++
		}
		reads(t, s, id)
		prints(t, must[api.Identity](t)(parsed(s)), s)
	}
	if other < 1000 {
		t.Errorf("%d texts alone are printed as others", other)
	}
}

func TestP1908TurnedTwice(t *testing.T) {
	changed := 0
	for _, b := range identities() {
		once := must[api.Identity](t)(terms.Turn(b.id()))
		isOne(t, once)
		if !same(once, b.id()) {
			changed++
		}
		if twice := must[api.Identity](t)(terms.Turn(once)); !same(twice, b.id()) {
			t.Fatalf("%s turned twice is %s", brief(b.id()), brief(twice))
		}
		if must[string](t)(terms.Vars(once)) != must[string](t)(terms.Vars(b.id())) {
			t.Fatalf("%s turned has other variables", brief(b.id()))
		}
	}
	if changed < 1000 {
		t.Errorf("%d identities alone are others when turned", changed)
	}
}
