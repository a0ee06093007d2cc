package tests

// class has the monoids in which all of its identities hold.
type class struct {
	name  string
	texts []string
}

// known is how many classes there are.
const known = 17

// table has them in their order, in new memory.
func table() [known]class {
	return [known]class{
		{"trivial", []string{"x = 1"}},
		{"group", []string{"x^w = 1"}},
		{"commutative", []string{"xy = yx"}},
		{"idempotent", []string{"xx = x"}},
		{"semilattice", []string{"xx = x", "xy = yx"}},
		{"counterfree", []string{"x^w x = x^w"}},
		{"rtrivial", []string{"(xy)^w x = (xy)^w"}},
		{"ltrivial", []string{"y(xy)^w = (xy)^w"}},
		{"jtrivial", []string{"(xy)^w x = (xy)^w", "y(xy)^w = (xy)^w"}},
		{"htrivial", []string{"x^w x = x^w"}},
		{"da", []string{"x^w x = x^w", "((xy)^w(yx)^w(xy)^w)^w = (xy)^w"}},
		{"ds", []string{"((xy)^w(yx)^w(xy)^w)^w = (xy)^w"}},
		{"blocks", []string{"(x^w y^w)^w = (y^w x^w)^w"}},
		{"central", []string{"x^w y = y x^w"}},
		{"upward", []string{"1 <= x"}},
		{"downward", []string{"x <= 1"}},
		{"acom", []string{"x^w x = x^w", "xy = yx"}},
	}
}

// named is the class of that name, if there is one.
func named(name string) (class, bool) {
	all := map[string]class{}
	for _, c := range table() {
		all[c.name] = c
	}
	c, is := all[name]
	return c, is
}

// has: do all of its identities hold, where ask tells it of each one?
func (c class) has(ask func(text string) bool) bool {
	for _, text := range c.texts {
		if !ask(text) {
			return false
		}
	}
	return true
}
