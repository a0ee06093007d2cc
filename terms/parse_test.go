package terms_test

import (
	"slices"
	"strings"
	"testing"

	"eggbox/api"
	"eggbox/terms"
)

func TestP1903Examples(t *testing.T) {
	x, y := variable('x'), variable('y')
	reads(t, "x^w x = x^w", both{mul(omega(x), x), omega(x), false}.id())
	reads(t, "(xy)^w x<=1", both{mul(omega(mul(x, y)), x), one(), true}.id())
	id := must[api.Identity](t)(parsed("x^w x = x^w"))
	if !slices.Equal(id.Left, []api.Sign{{Kind: api.Var, Name: 'x'}, {Kind: api.Omega}, {Kind: api.Var, Name: 'x'}, {Kind: api.Mul}}) {
		t.Errorf("the left side of x^w x = x^w is %s", signs(id.Left))
	}
	refuses(t, "x = ", 4, api.ErrSyntax)
	refuses(t, "x == y", 3, api.ErrSyntax)
	refuses(t, "u", 0, api.ErrSyntax)
	refuses(t, "x", 1, api.ErrSyntax)
}

// parsed is Parse without the place.
func parsed(text string) (api.Identity, api.Errno) {
	id, _, e := terms.Parse(text)
	return id, e
}

func TestP1903Sides(t *testing.T) {
	x, y, z, v := variable('x'), variable('y'), variable('z'), variable('t')
	for text, should := range map[string]plain{
		"x": x, "t": v, "1": one(), "(x)": x, "((1))": one(),
		"xyz": mul(mul(x, y), z), "x(yz)": mul(x, mul(y, z)), "(xy)z": mul(mul(x, y), z), "(xy)(zt)": mul(mul(x, y), mul(z, v)),
		"xyzt": mul(mul(mul(x, y), z), v), "x(y(zt))": mul(x, mul(y, mul(z, v))), "11": mul(one(), one()), "x1y": mul(mul(x, one()), y),
		"x^w": omega(x), "x^w^w": omega(omega(x)), "1^w": omega(one()), "(x^w)^w": omega(omega(x)), "(xy)^w": omega(mul(x, y)),
		"xy^w": mul(x, omega(y)), "x^wy": mul(omega(x), y), "x^wy^w": mul(omega(x), omega(y)), "x(y^wz)^w": mul(x, omega(mul(omega(y), z))),
		"((x))^w": omega(x), "(xy)^w^wx": mul(omega(omega(mul(x, y))), x), "x((yz))": mul(x, mul(y, z)), "((xy)^w(yx)^w(xy)^w)^w": omega(mul(mul(omega(mul(x, y)), omega(mul(y, x))), omega(mul(x, y)))),
	} {
		for _, between := range []string{"=", " = ", "<=", " <= "} {
			reads(t, text+between+"y", both{should, y, strings.Contains(between, "<")}.id())
			reads(t, "1"+between+text, both{one(), should, strings.Contains(between, "<")}.id())
			reads(t, text+between+text, both{should, should, strings.Contains(between, "<")}.id())
		}
	}
}

// TestP1903Wrong: where it is clear that nothing may come of a text.
func TestP1903Wrong(t *testing.T) {
	for text, place := range map[string]int{
		"": 0, " ": 1, "   ": 3, "=": 0, "= x": 0, " =x": 1, "<=x": 0, "x=": 2, "x =": 3, "x <= ": 5, "x<": 2, "x <": 3, "x < ": 3, "x < =y": 3, "x <  = y": 3,
		"x==y": 2, "x = = y": 4, "x<==y": 3, "x=<y": 2, "x =< y": 3, "x=y=z": 3, "x = y = z": 6, "x <= y <= z": 7, "x<=y=z": 4, "x>=y": 1, "x!=y": 1, "x<<=y": 2, "x<y": 2,
		"(": 1, "( ": 2, "()": 1, "( )": 2, "(x": 2, "(x=y": 2, "(x = y)": 3, "(x = y": 3, "x)": 1, "x)=y": 1, "x=y)": 3, "x = y)": 5, "x=(y": 4, "x=(y))": 5, "((x)=y": 4, ")x=y": 0, "x=)": 2,
		"^w": 0, "^": 0, "x^": 2, "x^ w": 2, "x^ w=y": 2, "x ^": 3, "x^y": 2, "x^^w": 2, "x^W": 2, "x^ww=y": 3, "x^w^=y": 4, "x=^w": 2, "(^w)": 1, "xw=y": 1, "w": 0, "x=y^": 4, "x=y^ w": 4,
		"u=x": 0, "x=u": 2, "xu=x": 1, "x=xu": 3, "a=b": 0, "X=x": 0, "0=x": 0, "2": 0, "x=0": 2, "x=1 2": 4, "x*=x": 1, "x|y=x": 1, "x,y": 1, "s=x": 0, "v=x": 0,
		"x\t=y": 1, "\tx=y": 0, "x=y\n": 3, "x=y\x00": 3, "\x00": 0, "x\x00=y": 1, "x=\xff": 2, "é=x": 0, "x=é": 2, "x=y\u00a0": 3, "ｘ=y": 0, "x＝y": 1, "x=y u": 4, "x=y   )": 6, "x = y ;": 6,
	} {
		refuses(t, text, place, api.ErrSyntax)
		// What stands behind the place changes nothing.
		if place < len(text) {
			refuses(t, text+" = x", place, api.ErrSyntax)
			refuses(t, text[:place+1], place, api.ErrSyntax)
		}
		refuses(t, "  "+text, place+2, api.ErrSyntax)
	}
}

// TestP1903ByDefinition: all texts of few bytes over the signs that matter, such as begin nothing with one byte more.
func TestP1903ByDefinition(t *testing.T) {
	g := grammarOf()
	read, refused := 0, 0
	var longer func(text string, most int, alphabet string)
	longer = func(text string, most int, alphabet string) {
		for i := range len(alphabet) {
			more := text + alphabet[i:i+1]
			if !g.viable(more) {
				refused++
				refuses(t, more, len(text), api.ErrSyntax)
				for j := range len(alphabet) {
					refuses(t, more+alphabet[j:j+1], len(text), api.ErrSyntax)
				}
				continue
			}
			if id, ok := g.derive(more); ok {
				read++
				reads(t, more, id)
			} else {
				refuses(t, more, len(more), api.ErrSyntax)
			}
			if len(more) < most {
				longer(more, most, alphabet)
			}
		}
	}
	longer("", 5, "xyzt1()^w<= u\x00\xff")
	longer("", 6, "x1()^w<= ")
	longer("", 9, "x()^w=")
	if read < 1000 || refused < 1000 {
		t.Errorf("%d texts were read, %d were not", read, refused)
	}
}

// text is one of a side with blanks and brackets that are not needed.
func (d *dice) text(p plain) string {
	var out string
	switch p.sign.Kind {
	case api.One:
		out = "1"
	case api.Var:
		out = string([]byte{p.sign.Name})
	case api.Mul:
		second := d.text(p.parts[1])
		if p.parts[1].sign.Kind == api.Mul {
			second = "(" + d.blanks() + second + d.blanks() + ")"
		}
		out = d.text(p.parts[0]) + d.blanks() + second
	case api.Omega:
		out = d.text(p.parts[0])
		if p.parts[0].sign.Kind == api.Mul {
			out = "(" + d.blanks() + out + d.blanks() + ")"
		}
		out += d.blanks() + "^w"
	}
	for d.below(6) == 0 {
		out = "(" + d.blanks() + out + d.blanks() + ")"
	}
	return out
}

func (d *dice) blanks() string { return strings.Repeat(" ", max(0, d.below(6)-3)) }

func (d *dice) wholeText(b both) string {
	between := "="
	if b.less {
		between = "<="
	}
	return d.blanks() + d.text(b.left) + d.blanks() + between + d.blanks() + d.text(b.right) + d.blanks()
}

// thrownTexts are texts of identities, and what they are.
func thrownTexts(n, most int) map[string]api.Identity {
	d := dice(362436069)
	out := map[string]api.Identity{}
	for len(out) < n {
		b := d.both(most)
		if text := d.wholeText(b); len(text) <= api.MaxText {
			out[text] = b.id()
		}
	}
	return out
}

func TestP1903Thrown(t *testing.T) {
	for text, should := range thrownTexts(3000, 60) {
		reads(t, text, should)
	}
}

// TestP1903Changed: texts with a byte more, a byte less, another byte, by the definition.
func TestP1903Changed(t *testing.T) {
	g := grammarOf()
	d := dice(521288629)
	signs := "xyzt1()^w<= u"
	met := map[api.Errno]int{}
	texts := thrownTexts(400, 8)
	for _, text := range slices.Sorted(keys(texts)) {
		if len(text) > 40 {
			continue
		}
		for range 4 {
			at := d.below(len(text) + 1)
			sign := signs[d.below(len(signs)):][:1]
			changed := text[:at] + sign + text[at:]
			if at < len(text) && d.below(3) > 0 {
				changed = text[:at] + text[at+1:]
				if d.below(2) == 0 {
					changed = text[:at] + sign + text[at+1:]
				}
			}
			id, place, e := g.read(changed)
			met[e]++
			if e == api.OK {
				reads(t, changed, id)
			} else {
				refuses(t, changed, place, e)
			}
		}
	}
	if met[api.OK] < 100 || met[api.ErrSyntax] < 100 {
		t.Errorf("of the changed texts %v", met)
	}
}

// keys goes through a map's keys.
func keys[T any](m map[string]T) func(yield func(string) bool) {
	return func(yield func(string) bool) {
		for key := range m {
			if !yield(key) {
				return
			}
		}
	}
}

// TestP1903Blanks: a blank more, anywhere but within "^w" and "<=", changes nothing.
func TestP1903Blanks(t *testing.T) {
	texts := thrownTexts(300, 12)
	for _, text := range []string{"x=y", "x^w^wy<=1", "(x)^w=(1)^w", "((xy)^w(yx)^w(xy)^w)^w = (xy)^w"} {
		texts[text] = must[api.Identity](t)(parsed(text))
	}
	within := 0
	for text, id := range texts {
		for at := range len(text) + 1 {
			more := text[:at] + " " + text[at:]
			if at > 0 && at < len(text) && (text[at-1:at+1] == "^w" || text[at-1:at+1] == "<=") {
				within++
				refuses(t, more, at, api.ErrSyntax)
				continue
			}
			reads(t, more, id)
			if len(more) < 500 {
				reads(t, text[:at]+strings.Repeat(" ", 400)+text[at:], id)
			}
		}
	}
	if within < 100 {
		t.Errorf("%d places within a sign alone", within)
	}
}

func TestP1903Long(t *testing.T) {
	x, y := variable('x'), variable('y')
	id := both{x, y, false}.id()
	blanks := strings.Repeat(" ", api.MaxText)
	for at := range 4 {
		text := "x=y"[:at] + blanks[:api.MaxText-3] + "x=y"[at:]
		reads(t, text, id)
		refuses(t, text+" ", 0, api.ErrLong)
		refuses(t, " "+text, 0, api.ErrLong)
	}
	refuses(t, blanks, api.MaxText, api.ErrSyntax)
	refuses(t, blanks+" ", 0, api.ErrLong)
	refuses(t, strings.Repeat("u", api.MaxText), 0, api.ErrSyntax)
	refuses(t, strings.Repeat("u", api.MaxText+1), 0, api.ErrLong)
	refuses(t, strings.Repeat("x", api.MaxText), api.MaxText, api.ErrSyntax)
	refuses(t, strings.Repeat("x", api.MaxText+1), 0, api.ErrLong)
	refuses(t, strings.Repeat("x", 1<<20), 0, api.ErrLong)
	// It is the bytes that are counted, not the runes.
	refuses(t, strings.Repeat("é", api.MaxText/2), 0, api.ErrSyntax)
	refuses(t, strings.Repeat("é", api.MaxText/2+1), 0, api.ErrLong)
	// Brackets within brackets.
	for _, deep := range []int{1, 2, 100, 498} {
		open, shut := strings.Repeat("(", deep), strings.Repeat(")", deep)
		reads(t, open+"x"+shut+"=y", id)
		reads(t, "x="+open+"y"+shut, id)
		refuses(t, open+"x"+shut[1:]+"=y", 2*deep, api.ErrSyntax)
		refuses(t, "x="+open+"y"+shut[1:], 2+2*deep, api.ErrSyntax)
		refuses(t, open+"x"+shut+")=y", 2*deep+1, api.ErrSyntax)
		refuses(t, "x="+open+"y"+shut+")", 2*deep+3, api.ErrSyntax)
	}
	refuses(t, strings.Repeat("(", api.MaxText), api.MaxText, api.ErrSyntax)
	refuses(t, strings.Repeat("(", api.MaxText-1)+")", api.MaxText-1, api.ErrSyntax)
	refuses(t, strings.Repeat("(", api.MaxText+1), 0, api.ErrLong)
}

func TestP1903TooManySigns(t *testing.T) {
	x := variable('x')
	// 200 variables make 399 signs.
	xs := strings.Repeat("x", 200)
	full := omega(row(200))
	reads(t, xs+"=1", both{row(200), one(), false}.id())
	reads(t, "("+xs+")^w=1", both{full, one(), false}.id())
	reads(t, "1<=("+xs+")^w", both{one(), full, true}.id())
	reads(t, "("+xs+")^w = ("+xs+")^w", both{full, full, false}.id())
	reads(t, "x"+strings.Repeat("^w", 399)+"=x", both{omegas(x, 399), x, false}.id())
	for _, side := range []string{xs + "x", "(" + xs + ")^w^w", "(" + xs + ")^wx", "x(" + xs + ")", "x" + strings.Repeat("^w", 400), strings.Repeat("1", 300), strings.Repeat("xyz^w", 90)} {
		refuses(t, side+"=1", 0, api.ErrSize)
		refuses(t, side+" <= 1", 0, api.ErrSize)
		refuses(t, "x="+side, 0, api.ErrSize)
		refuses(t, "("+side+")=1", 0, api.ErrSize)
		if len(side) < api.MaxText/2 {
			refuses(t, side+"="+side, 0, api.ErrSize)
		}
		// It must be derived ahead of being too much.
		refuses(t, side, len(side), api.ErrSyntax)
		refuses(t, side+"=", len(side)+1, api.ErrSyntax)
		refuses(t, side+"=)", len(side)+1, api.ErrSyntax)
		refuses(t, "x="+side+")", len(side)+2, api.ErrSyntax)
		refuses(t, side+"u", len(side), api.ErrSyntax)
		refuses(t, side+strings.Repeat(" ", api.MaxText)+"=1", 0, api.ErrLong)
	}
}
