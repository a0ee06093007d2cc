package bits_test

import (
	"fmt"
	"math"
	"testing"

	"eggbox/api"
	"eggbox/bits"
)

func TestP2_6Examples(t *testing.T) {
	s := of(t, 3, 64)
	want(t, "Shift by -4", bits.Shift(s, -4), plainOf(60))
	want(t, "Shift by 448", bits.Shift(s, 448), plainOf(451))
}

// plainShift is P2.6's definition; n is at most 512 to either side.
func plainShift(p plain, n int) plain {
	var out plain
	for i, in := range p {
		if in && i+n >= 0 && i+n < 512 {
			out[i+n] = true
		}
	}
	return out
}

func TestP2_6ShiftByAll(t *testing.T) {
	for _, p := range samples() {
		s := p.packed()
		for n := -513; n <= 513; n++ {
			want(t, fmt.Sprint("Shift by ", n), bits.Shift(s, n), plainShift(p, n))
		}
	}
}

func TestP2_6ShiftFar(t *testing.T) {
	full := below(t, 512)
	for _, n := range edges() {
		if n > -512 && n < 512 {
			continue
		}
		if s := bits.Shift(full, n); s != (api.Set{}) {
			t.Errorf("Shift of all by %d: %v", n, bits.List(s))
		}
	}
}

func TestP2_7Examples(t *testing.T) {
	want(t, "Put(none, 62, 4, 11)", put(t, api.Set{}, 62, 4, 11), plainOf(62, 63, 65))
	s := of(t, 3, 64)
	if v := field(t, s, 62, 6); v != 4 {
		t.Errorf("Field(.., 62, 6): %d", v)
	}
	if v, e := bits.Field(s, 509, 4); v != 0 || e != api.ErrArg {
		t.Errorf("Field(.., 509, 4): %d, %d", v, e)
	}
	if out, e := bits.Put(s, 0, 2, 4); out != (api.Set{}) || e != api.ErrRange {
		t.Errorf("Put(.., 0, 2, 4): %v, %d", out, e)
	}
}

// eachField runs try for every field there is.
func eachField(try func(at, width int)) {
	for width := 1; width <= 64; width++ {
		for at := 0; at <= 512-width; at++ {
			try(at, width)
		}
	}
}

// worth is the definition of a field's worth.
func worth(p plain, at, width int) uint64 {
	var v uint64
	for j := range width {
		if p[at+j] {
			v += 1 << j
		}
	}
	return v
}

// greatest is 2^width - 1.
func greatest(width int) uint64 {
	var v uint64
	for range width {
		v = 2*v + 1
	}
	return v
}

func TestP2_7Field(t *testing.T) {
	for _, p := range samples() {
		s := p.packed()
		eachField(func(at, width int) {
			if v, m := field(t, s, at, width), worth(p, at, width); v != m {
				t.Errorf("Field(%v, %d, %d): %d, wanted %d", p.list(), at, width, v, m)
			}
		})
	}
}

func TestP2_7Put(t *testing.T) {
	d := dice(2463534242)
	kept := samples()
	eachField(func(at, width int) {
		for _, v := range []uint64{0, 1, greatest(width), d.roll() & greatest(width)} {
			p := kept[d.roll()%uint64(len(kept))]
			other := p
			for j := range width {
				other[at+j] = v>>j&1 == 1
			}
			want(t, fmt.Sprintf("Put(.., %d, %d, %d)", at, width, v), put(t, p.packed(), at, width, v), other)
		}
	})
}

func TestP2_7PutIntoAllAndNone(t *testing.T) {
	for _, p := range []plain{{}, plainBelow(512)} {
		eachField(func(at, width int) {
			for _, v := range []uint64{0, greatest(width)} {
				other := p
				for j := range width {
					other[at+j] = v != 0
				}
				want(t, fmt.Sprintf("Put(.., %d, %d, %d)", at, width, v), put(t, p.packed(), at, width, v), other)
			}
		})
	}
}

func TestP2_7TooGreat(t *testing.T) {
	full := below(t, 512)
	for width := 1; width <= 63; width++ {
		for _, at := range []int{0, 1, 40, 64, 500 - width, 512 - width} {
			for _, v := range []uint64{1 << width, 1<<width + 1, 1 << 63, math.MaxUint64} {
				if s, e := bits.Put(full, at, width, v); e != api.ErrRange || s != (api.Set{}) {
					t.Errorf("Put(.., %d, %d, %d): %v, %d", at, width, v, s, e)
				}
			}
		}
	}
	if s, e := bits.Put(api.Set{}, 3, 64, math.MaxUint64); e != api.OK || bits.Size(s) != 64 {
		t.Errorf("Put of the greatest number into the width 64: %v, %d", s, e)
	}
}

func TestP2_7NoField(t *testing.T) {
	full := below(t, 512)
	for _, at := range edges() {
		for _, width := range edges() {
			is := width >= 1 && width <= 64 && at >= 0 && at <= 512 && at+width <= 512
			v, e := bits.Field(full, at, width)
			if is != (e == api.OK) || !is && (v != 0 || e != api.ErrArg) {
				t.Errorf("Field(.., %d, %d): %d, %d", at, width, v, e)
			}
			// The greatest worth fits no field but those of width 64: that there is no field is told first.
			s, e := bits.Put(full, at, width, math.MaxUint64)
			switch {
			case !is && (e != api.ErrArg || s != api.Set{}):
				t.Errorf("Put(.., %d, %d, ..) with no field: %v, %d", at, width, s, e)
			case is && width < 64 && e != api.ErrRange:
				t.Errorf("Put(.., %d, %d, ..) of too much: %d", at, width, e)
			case is && width == 64 && (e != api.OK || s != full):
				t.Errorf("Put(.., %d, 64, ..): %v, %d", at, s, e)
			}
		}
	}
}

func TestP2_7FieldsAtTheEnds(t *testing.T) {
	for width := 1; width <= 64; width++ {
		if _, e := bits.Field(api.Set{}, 512-width, width); e != api.OK {
			t.Errorf("Field(.., %d, %d): %d", 512-width, width, e)
		}
		if _, e := bits.Field(api.Set{}, 513-width, width); e != api.ErrArg {
			t.Errorf("Field(.., %d, %d): %d", 513-width, width, e)
		}
	}
}

func TestP2_11ShiftAndBack(t *testing.T) {
	for _, p := range samples() {
		s := p.packed()
		for _, n := range edges() {
			if n == math.MinInt { // there is no int -n
				continue
			}
			var left plain
			for i, in := range p {
				left[i] = in && n > -512 && n < 512 && i+n >= 0 && i+n < 512
			}
			want(t, fmt.Sprintf("Shift by %d and back", n), bits.Shift(bits.Shift(s, n), -n), left)
		}
	}
}

func TestP2_11ShiftTwice(t *testing.T) {
	for _, p := range samples() {
		s := p.packed()
		for _, n := range edges() {
			for _, m := range edges() {
				if (n < 0) != (m < 0) || n >= 0 && n > math.MaxInt-m || n < 0 && n < math.MinInt-m {
					continue
				}
				if bits.Shift(bits.Shift(s, n), m) != bits.Shift(s, n+m) {
					t.Errorf("Shift of %v by %d and %d", p.list(), n, m)
				}
			}
		}
	}
}

func TestP2_12FieldOfPutAndPutOfField(t *testing.T) {
	d := dice(362436069)
	for _, p := range samples() {
		s := p.packed()
		eachField(func(at, width int) {
			v := d.roll() & greatest(width)
			if field(t, put(t, s, at, width, v), at, width) != v {
				t.Errorf("Field(Put(.., %d, %d, %d))", at, width, v)
			}
			if put(t, s, at, width, field(t, s, at, width)) != s {
				t.Errorf("Put(.., %d, %d, Field)", at, width)
			}
		})
	}
}

func TestP2_12PutsInAnyOrder(t *testing.T) {
	d := dice(521288629)
	for _, p := range samples() {
		s := p.packed()
		for range 500 {
			w1, w2 := int(d.roll()%64)+1, int(d.roll()%64)+1
			at1 := int(d.roll() % uint64(512-w1-w2+1))
			at2 := at1 + w1 + int(d.roll()%uint64(512-at1-w1-w2+1))
			if d.roll()%2 == 0 {
				at2 = at1 + w1 // side by side
			}
			v1, v2 := d.roll()&greatest(w1), d.roll()&greatest(w2)
			one := put(t, put(t, s, at1, w1, v1), at2, w2, v2)
			other := put(t, put(t, s, at2, w2, v2), at1, w1, v1)
			if one != other || field(t, one, at1, w1) != v1 || field(t, one, at2, w2) != v2 {
				t.Errorf("Puts at %d (%d) and %d (%d)", at1, w1, at2, w2)
			}
		}
	}
}

func TestP2_12FieldOfWidthOneIsHas(t *testing.T) {
	for _, p := range samples() {
		s := p.packed()
		for i := range 512 {
			if v := field(t, s, i, 1); (v == 1) != bits.Has(s, i) || v > 1 {
				t.Errorf("Field(%v, %d, 1): %d", p.list(), i, v)
			}
		}
	}
}
