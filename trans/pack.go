package trans

import "eggbox/api"

// How images lie in a word: so many bits each, so many of them.
const (
	width   = 6
	perWord = 10
	mask    = 1<<width - 1
)

// moves are n points' images, unpacked. Behind them stand zeros, so that two can be compared by ==.
type moves struct {
	n  int
	to [api.MaxStates]uint8
}

func isSize(n int) bool { return n >= 1 && n <= api.MaxStates }

// place is the word, and the bit in it, at which a point's image begins.
func place(i int) (word int, bit uint) { return i / perWord, uint(i % perWord * width) }

// unpack reads the images, which may be any: N is that of a transformation.
func unpack(t api.Trans) moves {
	out := moves{n: t.N}
	for i := range t.N {
		word, bit := place(i)
		out.to[i] = uint8(t.Words[word] >> bit & mask)
	}
	return out
}

func (m moves) pack() api.Trans {
	out := api.Trans{N: m.n}
	for i := range m.n {
		word, bit := place(i)
		out.Words[word] |= uint64(m.to[i]) << bit
	}
	return out
}

// open is a transformation's images; ErrTrans, if it is none.
func open(t api.Trans) (moves, api.Errno) {
	if !isSize(t.N) {
		return moves{}, api.ErrTrans
	}
	out := unpack(t)
	for i := range out.n {
		if int(out.to[i]) >= out.n {
			return moves{}, api.ErrTrans
		}
	}
	// What is packed again has the images alone: where it is another one a bit is set elsewhere.
	if out.pack() != t {
		return moves{}, api.ErrTrans
	}
	return out, api.OK
}

// still is where each of n points stays.
func still(n int) moves {
	out := moves{n: n}
	for i := range n {
		out.to[i] = uint8(i)
	}
	return out
}

// then is m first, and after it another one of as many points.
func (m moves) then(next moves) moves {
	out := moves{n: m.n}
	for i := range m.n {
		out.to[i] = next.to[m.to[i]]
	}
	return out
}
