package syntax

import (
	"eggbox/api"
	"eggbox/tree"
)

// Parse: a text; with ErrSyntax the place.
func Parse(k int, text string) ([]api.Node, int, api.Errno) {
	if k < 1 || k > api.MaxLetters {
		return nil, 0, api.ErrLetters
	}
	if len(text) > api.MaxText {
		return nil, 0, api.ErrLong
	}
	r := &reader{letters: k, due: true}
	// A byte above 127, alone or as part of a rune, never decodes to a sign of the grammar.
	for place, sign := range text {
		if sign == ' ' {
			continue
		}
		if step := r.step(); !step(sign) {
			return nil, place, api.ErrSyntax
		}
	}
	if !r.end() {
		return nil, len(text), api.ErrSyntax
	}
	// A text that was read makes a tree over k letters, of no more nodes than twice its bytes: all that may be wrong is the depth.
	if e := tree.Check(k, r.nodes); e != api.OK {
		return nil, 0, e
	}
	return r.nodes, 0, api.OK
}

// bracket is the kind of what waits for a bracket that shuts; no node has it.
const bracket = 0

// waiting: a node whose last part is being read, or a bracket that is open.
type waiting struct {
	kind  int
	minus bool // the part being read stands with a Not
}

// reader: what waits is kept in a list, not in calls within calls, so that brackets nested as deep as a text allows cost no more than others.
type reader struct {
	letters int
	due     bool // a part must begin here
	nodes   []api.Node
	waits   []waiting
}

// step answers the method that reads the next sign.
func (r *reader) step() func(sign rune) bool {
	if r.due {
		return r.begin
	}
	return r.follow
}

// begin reads a sign where a part must begin; false, if none begins with it.
func (r *reader) begin(sign rune) bool {
	switch sign {
	case '(':
		r.wait(waiting{kind: bracket})
	case '!':
		r.wait(waiting{kind: api.Not})
	case '0':
		r.leaf(api.Node{Kind: api.None})
	case '1':
		r.leaf(api.Node{Kind: api.Empty})
	case '.':
		r.leaf(api.Node{Kind: api.Any})
	default:
		if sign < firstLetter || sign >= firstLetter+rune(r.letters) {
			return false
		}
		r.leaf(api.Node{Kind: api.Letter, Sign: byte(sign)})
	}
	return true
}

// follow reads a sign where a part may have ended; false, if it can't stand there.
func (r *reader) follow(sign rune) bool {
	single, minus := api.Star, false
	switch sign {
	case '?':
		r.put(api.Empty)
		single = api.Union
		fallthrough
	case '*':
		r.put(single)
	case '-':
		minus = true
		fallthrough
	case '&':
		r.join(waiting{kind: api.Inter, minus: minus})
	case '|':
		r.join(waiting{kind: api.Union})
	case ')':
		return r.shut()
	default:
		r.join(waiting{kind: api.Concat})
		return r.begin(sign)
	}
	return true
}

// end: may the text end here?
func (r *reader) end() bool {
	if r.due {
		return false
	}
	r.settle(tightness[api.Union])
	return len(r.waits) == 0
}

// shut ends the bracket that was opened last; false, if none is open.
func (r *reader) shut() bool {
	r.settle(tightness[api.Union])
	last := len(r.waits) - 1
	if last < 0 {
		return false
	}
	r.waits = r.waits[:last]
	return true
}

// join lets a node with two parts wait for its second one. What waits and holds as tightly ends ahead of it: of several parts the first two belong together.
func (r *reader) join(w waiting) {
	r.settle(tightness[w.kind])
	r.wait(w)
}

// settle writes the nodes that wait, from the last one on, as long as they hold that tightly. An open bracket holds nothing.
func (r *reader) settle(least int) {
	for len(r.waits) > 0 {
		last := len(r.waits) - 1
		w := r.waits[last]
		if tightness[w.kind] < least {
			return
		}
		r.waits = r.waits[:last]
		if w.minus {
			r.put(api.Not)
		}
		r.put(w.kind)
	}
}

func (r *reader) wait(w waiting) {
	r.waits = append(r.waits, w)
	r.due = true
}

func (r *reader) leaf(n api.Node) {
	r.nodes = append(r.nodes, n)
	r.due = false
}

func (r *reader) put(kind int) {
	r.nodes = append(r.nodes, api.Node{Kind: kind})
}
