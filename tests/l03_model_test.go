package tests

import (
	"slices"
	"testing"

	"loop.example/g01251/impl"
)

// This file holds a second, slow reading of chapter 3, against which the package is tested. It
// finds products with the model of chapter 1, and puts generators above diagrams, where the package
// puts them below.

// modelGenerator returns the generator i of the size n.
func modelGenerator(n int64, i int64) impl.Diagram {
	d := impl.Diagram{Size: n}
	for k := range n {
		d.Mate[k], d.Mate[n+k] = byte(n+k), byte(k)
	}
	d.Mate[i], d.Mate[i+1] = byte(i+1), byte(i)
	d.Mate[n+i], d.Mate[n+i+1] = byte(n+i+1), byte(n+i)
	return d
}

// modelUnit returns the unit of the size n.
func modelUnit(n int64) impl.Diagram {
	d := impl.Diagram{Size: n}
	for k := range n {
		d.Mate[k], d.Mate[n+k] = byte(n+k), byte(k)
	}
	return d
}

// modelValue returns the value of a word and its loops, from the last number to the first.
func modelValue(n int64, word []int64) (impl.Diagram, int64) {
	d, total := modelUnit(n), int64(0)
	for k := len(word) - 1; k >= 0; k-- {
		product, loops := modelProduct(modelGenerator(n, word[k]), d)
		d = product
		total += loops
	}
	return d, total
}

// modelShortest has the normal word of a diagram, and the number of its shortest words.
type modelShortest struct {
	word  []int64
	count int64
}

// modelSearch returns the shortest words of all diagrams of the size n.
func modelSearch(n int64) map[impl.Diagram]modelShortest {
	level := map[impl.Diagram]modelShortest{modelUnit(n): {count: 1}}
	all := map[impl.Diagram]modelShortest{}
	for len(level) > 0 {
		for d, found := range level {
			all[d] = found
		}
		next := map[impl.Diagram]modelShortest{}
		for d, found := range level {
			for i := range n - 1 {
				e, loops := modelProduct(modelGenerator(n, i), d)
				if _, shorter := all[e]; shorter || loops > 0 {
					continue
				}
				word := append([]int64{i}, found.word...)
				best, known := next[e]
				if !known || slices.Compare(word, best.word) < 0 {
					best.word = word
				}
				best.count += found.count
				next[e] = best
			}
		}
		level = next
	}
	return all
}

// modelWords has the shortest words of the diagrams of each size.
var modelWords = func() []map[impl.Diagram]modelShortest {
	list := []map[impl.Diagram]modelShortest{nil}
	for n := int64(1); n <= 8; n++ {
		list = append(list, modelSearch(n))
	}
	return list
}()

// modelLength returns the length of d without a search: each generator has a line on both sides of
// its column, so the columns that the lines of d span are twice as many as the generators.
func modelLength(d impl.Diagram) int64 {
	n := int(d.Size)
	columns := int64(0)
	for i := range 2 * n {
		if a, b := i%n, int(d.Mate[i])%n; a < b {
			columns += int64(b - a)
		}
	}
	return columns / 2
}

// modelIsPermutation reports whether a list is a permutation of 1 to 8 entries.
func modelIsPermutation(list []int64) bool {
	sorted := slices.Clone(list)
	slices.Sort(sorted)
	for i, entry := range sorted {
		if int64(i) != entry {
			return false
		}
	}
	return len(list) >= 1 && len(list) <= 8
}

// modelIsShort looks for three descending entries of a permutation.
func modelIsShort(list []int64) bool {
	for i := range list {
		for j := range i {
			for k := range j {
				if list[k] > list[j] && list[j] > list[i] {
					return false
				}
			}
		}
	}
	return true
}

// modelPermutation returns the permutation to which a word leads.
func modelPermutation(n int64, word []int64) []int64 {
	list := []int64{}
	for i := range n {
		list = append(list, i)
	}
	for _, i := range word {
		list[i], list[i+1] = list[i+1], list[i]
	}
	return list
}

// forPermutations calls use with all permutations of the size n.
func forPermutations(n int64, use func(list []int64)) {
	var extend func(list []int64)
	extend = func(list []int64) {
		if int64(len(list)) == n {
			use(list)
			return
		}
		for i := range n {
			if !slices.Contains(list, i) {
				extend(append(slices.Clone(list), i))
			}
		}
	}
	extend(nil)
}

// forWords calls use with all words of a length for the size n, in lexicographic order.
func forWords(n int64, length int, use func(word []int64)) {
	var extend func(word []int64)
	extend = func(word []int64) {
		if len(word) == length {
			use(word)
			return
		}
		for i := range n - 1 {
			extend(append(slices.Clone(word), i))
		}
	}
	extend(nil)
}

// repeated returns a word of so many equal numbers.
func repeated(i int64, count int) []int64 {
	word := make([]int64, count)
	for k := range word {
		word[k] = i
	}
	return word
}

// word picks a word of a length for the size n.
func (s *sampler) word(n int64, length int64) []int64 {
	word := make([]int64, length)
	for k := range word {
		word[k] = s.below(n - 1)
	}
	return word
}

// wordsOfSize returns words for the size n: the empty one, those of one number, some of all kinds,
// and some of 60 numbers.
func wordsOfSize(n int64) [][]int64 {
	s := sampler(n)
	words := [][]int64{nil, {}}
	for i := range n - 1 {
		words = append(words, []int64{i}, []int64{i, i}, repeated(i, 60))
	}
	for length := int64(1); length <= 60; length++ {
		words = append(words, s.word(n, length))
	}
	rising := []int64{}
	for k := range int64(60) {
		rising = append(rising, k%(n-1))
	}
	falling := slices.Clone(rising)
	slices.Reverse(falling)
	return append(words, rising, falling, s.word(n, 60), s.word(n, 60))
}

// badWords returns pairs of a size and a list that is no word for it.
func badWords() []struct {
	n    int64
	word []int64
} {
	type pair = struct {
		n    int64
		word []int64
	}
	list := []pair{}
	for _, n := range append([]int64{0, 1, 9, 10}, outside...) {
		for _, word := range [][]int64{nil, {}, {0}, {1, 0}, {-1}, {n - 1}, repeated(0, 60), repeated(0, 61)} {
			list = append(list, pair{n, word})
		}
	}
	for n := int64(2); n <= 8; n++ {
		list = append(list, pair{n, repeated(0, 61)}, pair{n, repeated(n-2, 61)}, pair{n, repeated(0, 1000)}, pair{n, repeated(-1, 61)})
		for _, i := range append([]int64{n - 1, n, 48, 49}, outside...) {
			list = append(list, pair{n, []int64{i}}, pair{n, []int64{0, i}}, pair{n, []int64{i, 0}}, pair{n, append(repeated(0, 59), i)}, pair{n, append([]int64{i}, repeated(n-2, 59)...)})
		}
	}
	return list
}

// badPermutations returns lists that are no permutations of 1 to 8 entries.
func badPermutations() [][]int64 {
	list := [][]int64{
		nil, {}, {1}, {-1}, {8}, {0, 0}, {1, 1}, {1, 2}, {2, 0}, {0, 2}, {-1, 0}, {0, -1}, {0, 1, 3}, {3, 1, 0}, {2, 1, 1}, {2, 1, -1}, {0, 1, 2, 2}, {2, 2, 1, 0},
		{0, 1, 2, 3, 4, 5, 6, 6}, {0, 1, 2, 3, 4, 5, 6, 8}, {7, 6, 5, 4, 3, 2, 1, -1}, {0, 1, 2, 3, 4, 5, 6, 7, 8}, {8, 7, 6, 5, 4, 3, 2, 1, 0}, {0, 1, 2, 3, 4, 5, 6, 7, 7},
		modelPermutation(100, nil), repeated(0, 8), repeated(0, 300),
	}
	for _, i := range outside {
		list = append(list, []int64{i}, []int64{0, i}, []int64{i, 1}, []int64{0, 1, 2, 3, 4, 5, 6, i}, []int64{2, 1, 0, i})
	}
	return list
}

// valued returns the value of a word and its loops.
func valued(t *testing.T, n int64, word []int64) (impl.Diagram, int64) {
	t.Helper()
	d, loops, code := impl.ValueOfWord(n, word)
	if code != impl.ErrNone {
		t.Fatalf("ValueOfWord(%d, %v): code %d", n, word, code)
	}
	return d, loops
}
