package bits_test

import (
	"slices"
	"testing"

	"eggbox/api"
	"eggbox/bits"
)

func TestP1NoListIsTheEmptyList(t *testing.T) {
	one, e1 := bits.Of(nil)
	two, e2 := bits.Of([]int{})
	if one != two || e1 != e2 || e1 != api.OK {
		t.Errorf("Of(nil) is %v, %d; Of of an empty list is %v, %d", one, e1, two, e2)
	}
	if len(bits.List(api.Set{})) != 0 {
		t.Error("List of the empty set")
	}
}

func TestP1TheListIsNotChangedNorKept(t *testing.T) {
	room := []int{9, 5, 9, 0, 77, 88}
	list := room[:4]
	s := of(t, list...)
	s2, _ := bits.Of(list)
	if !slices.Equal(room, []int{9, 5, 9, 0, 77, 88}) {
		t.Errorf("the list, or the room behind it, is now %v", room)
	}
	list[0] = 400
	if s != s2 || s2 != plainOf(0, 5, 9).packed() {
		t.Error("the set is another one once the list has changed")
	}
}

func TestP1AnswersAreNewMemory(t *testing.T) {
	s := plainOf(1, 2, 300).packed()
	one, two := bits.List(s), bits.List(s)
	one[0] = 99
	one = append(one[:1], 98, 97, 96)
	if !slices.Equal(two, []int{1, 2, 300}) || !slices.Equal(bits.List(s), []int{1, 2, 300}) {
		t.Errorf("a list changed with another one: %v", two)
	}
	if one[0] != 99 || s != plainOf(1, 2, 300).packed() {
		t.Error("the set changed with its list")
	}
}

func TestP1TheSameAnswerAgain(t *testing.T) {
	for _, p := range samples() {
		s := p.packed()
		first := bits.List(s)
		bits.Of([]int{1, 2, 3})
		bits.Put(s, 3, 60, 12345)
		bits.Shift(s, 77)
		if !slices.Equal(first, bits.List(s)) || s != p.packed() {
			t.Errorf("List of %v is another one after other calls", p.list())
		}
	}
}
