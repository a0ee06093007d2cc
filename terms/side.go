package terms

import (
	"slices"
	"strings"

	"eggbox/api"
)

// variables in their order.
const variables = "xyzt"

// place is a variable's place in that order, and so that of its value; -1, if it is none.
func place(name byte) int { return strings.IndexByte(variables, name) }

// check: are these sides, and not too long ones?
func check(sides ...[]api.Sign) api.Errno {
	for _, side := range sides {
		if len(side) > api.MaxSigns {
			return api.ErrSize
		}
	}
	for _, side := range sides {
		if !isSide(side) {
			return api.ErrTerm
		}
	}
	return api.OK
}

// isSide: does it come about as a side does?
func isSide(side []api.Sign) bool {
	waiting := 0 // sides so far that are no sign's parts
	for _, s := range side {
		parts := partsOf(s.Kind)
		if !isSign(s) || waiting < parts {
			return false
		}
		waiting += 1 - parts
	}
	return waiting == 1
}

func isSign(s api.Sign) bool {
	if s.Kind == api.Var {
		return place(s.Name) >= 0
	}
	return s.Kind >= api.One && s.Kind <= api.Omega && s.Name == 0
}

// partsOf is how many parts a sign of that kind has.
func partsOf(kind int) int {
	switch kind {
	case api.Mul:
		return 2
	case api.Omega:
		return 1
	}
	return 0
}

// variablesOf are those that occur, each once, in their order.
func variablesOf(sides ...[]api.Sign) string {
	var out []byte
	for i := range len(variables) {
		v := api.Sign{Kind: api.Var, Name: variables[i]}
		if slices.ContainsFunc(sides, func(side []api.Sign) bool { return slices.Contains(side, v) }) {
			out = append(out, v.Name)
		}
	}
	return string(out)
}

// checkValues: has each variable of a side a value, and one that may be? All of them must be there before one is looked at.
func checkValues[T any](side []api.Sign, values []T, may func(value T) api.Errno) api.Errno {
	occur := []byte(variablesOf(side))
	for _, name := range occur {
		if place(name) >= len(values) {
			return api.ErrNone
		}
	}
	for _, name := range occur {
		if e := may(values[place(name)]); e != api.OK {
			return e
		}
	}
	return api.OK
}

// meaning is what each sign stands for, by what its parts stand for.
type meaning[T any] struct {
	one      func() T
	variable func(name byte) T
	mul      func(first, second T) T
	omega    func(part T) T
}

// of is what a side stands for.
func (m meaning[T]) of(side []api.Sign) T {
	// From behind each sign stands ahead of its parts, the second one first.
	from := len(side)
	var next func() T
	next = func() T {
		from--
		switch s := side[from]; s.Kind {
		case api.One:
			return m.one()
		case api.Var:
			return m.variable(s.Name)
		case api.Omega:
			return m.omega(next())
		}
		second := next()
		return m.mul(next(), second)
	}
	return next()
}
