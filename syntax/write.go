package syntax

import (
	"strings"

	"eggbox/api"
	"eggbox/tree"
)

// Print: as a text.
func Print(k int, t []api.Node) (string, api.Errno) {
	if e := tree.Check(k, t); e != api.OK {
		return "", e
	}
	// The texts of the trees that are no one's parts so far: what a list says is read by a stack.
	var free []written
	for _, n := range t {
		text, used := textOf(n, free)
		// A whole is no shorter than its part, so a tree of many nodes is not written to its end.
		if len(text) > api.MaxText {
			return "", api.ErrLong
		}
		free = append(free[:len(free)-used], written{text, tightness[n.Kind]})
	}
	// The text of a node without parts is the program's own.
	return strings.Clone(free[0].text), api.OK
}

// written: the text of a tree, and how tightly its root holds it together.
type written struct {
	text  string
	tight int
}

// textOf: a node with its parts, which are the last ones of those that are written; and how many they are.
func textOf(n api.Node, free []written) (text string, used int) {
	tight, end := tightness[n.Kind], len(free)
	switch n.Kind {
	case api.None:
		return "0", 0
	case api.Empty:
		return "1", 0
	case api.Any:
		return ".", 0
	case api.Star:
		return free[end-1].within(tight) + "*", 1
	case api.Not:
		return "!" + free[end-1].within(tight), 1
	case api.Union:
		return pair(free[end-2:], tight, "|"), 2
	case api.Inter:
		return pair(free[end-2:], tight, "&"), 2
	case api.Concat:
		return pair(free[end-2:], tight, ""), 2
	}
	return string(rune(n.Sign)), 0
}

// pair: two parts with a mark between them. The second one must hold tighter, since without brackets the first two of several parts belong together.
func pair(parts []written, tight int, mark string) string {
	return parts[0].within(tight) + mark + parts[1].within(tight+1)
}

// within: the text as a part of what asks at least that tightness of its parts.
func (w written) within(least int) string {
	if w.tight < least {
		return "(" + w.text + ")"
	}
	return w.text
}
