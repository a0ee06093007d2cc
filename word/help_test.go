package word_test

import (
	"strings"
	"testing"

	"eggbox/api"
	"eggbox/word"
)

// allWords lists the words over k letters of at most size letters, shorter ones first, made without package word.
func allWords(k, size int) []string {
	out := []string{""}
	row := out
	for range size {
		var longer []string
		for _, w := range row {
			for i := range k {
				longer = append(longer, w+string(rune('a'+i)))
			}
		}
		out = append(out, longer...)
		row = longer
	}
	return out
}

// mustRoot is Root where it must be answered.
func mustRoot(t *testing.T, k int, w string) (string, int) {
	t.Helper()
	root, times, e := word.Root(k, w)
	if e != api.OK {
		t.Fatalf("Root(%d, %q): error %d", k, w, e)
	}
	return root, times
}

// mustPeriods is Periods where it must be answered.
func mustPeriods(t *testing.T, k int, w string) []int {
	t.Helper()
	list, e := word.Periods(k, w)
	if e != api.OK {
		t.Fatalf("Periods(%d, %q): error %d", k, w, e)
	}
	return list
}

// isPeriod is P106's definition: any two letters that stand p apart are the same.
func isPeriod(w string, p int) bool {
	for i := 0; i+p < len(w); i++ {
		if w[i] != w[i+p] {
			return false
		}
	}
	return true
}

// plainPeriods lists the periods by the definition.
func plainPeriods(w string) []int {
	var out []int
	for p := 1; p <= len(w); p++ {
		if isPeriod(w, p) {
			out = append(out, p)
		}
	}
	return out
}

// plainRoot finds the root by trying all beginnings, shorter ones first.
func plainRoot(w string) (string, int) {
	for size := 1; size <= len(w); size++ {
		if n := len(w) / size; strings.Repeat(w[:size], n) == w {
			return w[:size], n
		}
	}
	return "", 0
}

// fibonacci: a word with many borders and no power, of at least size letters.
func fibonacci(size int) string {
	u, v := "a", "ab"
	for len(v) < size {
		u, v = v, v+u
	}
	return v
}

// shortened is w as a message may show it.
func shortened(w string) string {
	if len(w) > 40 {
		return w[:40] + ".."
	}
	return w
}
