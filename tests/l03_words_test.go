package tests

import (
	"slices"
	"strings"
	"testing"

	"loop.example/g01251/impl"
)

// Tests of chapter 3: what the functions return for valid arguments.

func TestLimitOfWords(t *testing.T) {
	if impl.MaxWord != 60 {
		t.Errorf("MaxWord is %d", impl.MaxWord)
	}
}

func TestValuesOfWords(t *testing.T) {
	for n := int64(2); n <= 8; n++ {
		for _, word := range wordsOfSize(n) {
			want, wanted := modelValue(n, word)
			d, loops, code := impl.ValueOfWord(n, word)
			if d != want || loops != wanted || code != impl.ErrNone {
				t.Fatalf("ValueOfWord(%d, %v) = %v, %d, %d", n, word, d, loops, code)
			}
		}
	}
}

func TestValuesByHand(t *testing.T) {
	cases := []struct {
		n     int64
		word  []int64
		text  string
		loops int64
	}{
		{2, nil, "(())", 0},
		{8, []int64{}, "(((((((())))))))", 0},
		{2, []int64{0}, "()()", 0},
		{2, []int64{0, 0}, "()()", 1},
		{2, repeated(0, 60), "()()", 59},
		{8, repeated(6, 60), "((((((()()))))))", 59},
		{3, []int64{0, 1}, "()(())", 0},
		{3, []int64{1, 0}, "(())()", 0},
		{3, []int64{0, 1, 0}, "()()()", 0},
		{3, []int64{0, 1, 0, 0}, "()()()", 1},
		{3, []int64{1, 1, 0}, "(())()", 1},
		{4, []int64{0, 2}, "()()()()", 0},
		{4, []int64{0, 2, 0, 2}, "()()()()", 2},
		{4, []int64{1, 0, 2, 1}, "(())(())", 0},
		{4, []int64{1, 0, 2, 1, 0, 2, 1}, "(())(())", 1},
		{4, []int64{0, 2, 1, 0, 2}, "()()()()", 1},
	}
	for _, c := range cases {
		d, loops, code := impl.ValueOfWord(c.n, c.word)
		if d != parsed(t, c.text) || loops != c.loops || code != impl.ErrNone {
			t.Errorf("ValueOfWord(%d, %v) = %s, %d, %d", c.n, c.word, modelText(d), loops, code)
		}
	}
}

// TestWordsOneBehindTheOther checks the promise 15: they have the product of their values.
func TestWordsOneBehindTheOther(t *testing.T) {
	for n := int64(2); n <= 8; n++ {
		words := wordsOfSize(n)
		for _, a := range words {
			d, first := valued(t, n, a)
			for _, b := range words {
				if len(a)+len(b) > 60 {
					continue
				}
				e, second := valued(t, n, b)
				want, between, _ := impl.MultiplyDiagrams(d, e)
				got, loops := valued(t, n, slices.Concat(a, b))
				if got != want || loops != first+second+between {
					t.Fatalf("ValueOfWord of %v and %v is %v, %d", a, b, got, loops)
				}
			}
		}
	}
}

// TestShortestWords compares lengths, normal words and counts of all diagrams.
func TestShortestWords(t *testing.T) {
	for n := int64(1); n <= 8; n++ {
		for _, d := range modelLists[n] {
			want, ok := modelWords[n][d]
			if !ok {
				t.Fatalf("%v has no words", d)
			}
			length, first := impl.LengthOfDiagram(d)
			word, second := impl.NormalWord(d)
			count, third := impl.CountShortest(d)
			if length != int64(len(want.word)) || length != modelLength(d) || first != impl.ErrNone {
				t.Fatalf("LengthOfDiagram(%s) = %d, %d", modelText(d), length, first)
			}
			if !slices.Equal(word, want.word) || second != impl.ErrNone {
				t.Fatalf("NormalWord(%s) = %v, %d, not %v", modelText(d), word, second, want.word)
			}
			if count != want.count || third != impl.ErrNone {
				t.Fatalf("CountShortest(%s) = %d, %d, not %d", modelText(d), count, third, want.count)
			}
		}
	}
}

// TestShortestOfAllWords goes through all words of small sizes, shorter ones first: the first one
// of a diagram without loops is its normal word.
func TestShortestOfAllWords(t *testing.T) {
	for n, longest := range map[int64]int{2: 8, 3: 8, 4: 6, 5: 6} {
		normal := map[impl.Diagram][]int64{}
		counts := map[impl.Diagram]int64{}
		for length := range longest + 1 {
			forWords(n, length, func(word []int64) {
				d, loops := modelValue(n, word)
				if _, known := normal[d]; !known && loops == 0 {
					normal[d] = word
				}
				isReduced := loops == 0 && len(normal[d]) == length
				counts[d] += int64(b2i(isReduced))
				if got, code := impl.IsReducedWord(n, word); got != isReduced || code != impl.ErrNone {
					t.Fatalf("IsReducedWord(%d, %v) = %v, %d", n, word, got, code)
				}
				got, left, code := impl.ReduceWord(n, word)
				if !slices.Equal(got, modelWords[n][d].word) || left != loops || code != impl.ErrNone {
					t.Fatalf("ReduceWord(%d, %v) = %v, %d, %d", n, word, got, left, code)
				}
			})
		}
		if len(normal) != len(modelLists[n]) {
			t.Fatalf("size %d: words of %d diagrams", n, len(normal))
		}
		for d, word := range normal {
			got, _ := impl.NormalWord(d)
			count, _ := impl.CountShortest(d)
			if !slices.Equal(got, word) || count != counts[d] {
				t.Fatalf("NormalWord, CountShortest(%v) = %v, %d, not %v, %d", d, got, count, word, counts[d])
			}
		}
	}
}

func TestShortestWordsByHand(t *testing.T) {
	cases := []struct {
		text  string
		word  []int64
		count int64
	}{
		{"()", nil, 1},
		{"(())", nil, 1},
		{"()()", []int64{0}, 1},
		{"(())()", []int64{1, 0}, 1},
		{"()(())", []int64{0, 1}, 1},
		{"(()())", []int64{1}, 1},
		{"()()()()", []int64{0, 2}, 2},
		{"(())(())", []int64{1, 0, 2, 1}, 2},
		{"(())()()", []int64{1, 0, 2}, 2},
		{"()()(())", []int64{0, 2, 1}, 2},
		{"(((((((())))))))", nil, 1},
		{"()()()()()()()()", []int64{0, 2, 4, 6}, 24},
		{"(((())))(((())))", []int64{3, 2, 1, 0, 4, 3, 2, 1, 5, 4, 3, 2, 6, 5, 4, 3}, 24024},
	}
	for _, c := range cases {
		d := parsed(t, c.text)
		length, first := impl.LengthOfDiagram(d)
		word, second := impl.NormalWord(d)
		count, third := impl.CountShortest(d)
		if length != int64(len(c.word)) || !slices.Equal(word, c.word) || count != c.count || first+second+third != impl.ErrNone {
			t.Errorf("%s: length %d, normal word %v, %d shortest words", c.text, length, word, count)
		}
	}
}

// TestNormalWordsHaveTheirValues checks the first part of the promise 3, and that normal words are
// reduced and lead back to themselves.
func TestNormalWordsHaveTheirValues(t *testing.T) {
	for n := int64(2); n <= 8; n++ {
		for _, d := range modelLists[n] {
			word, _ := impl.NormalWord(d)
			if e, loops := valued(t, n, word); e != d || loops != 0 {
				t.Fatalf("the value of %v is %v, with %d loops, not %v", word, e, loops, d)
			}
			if ok, code := impl.IsReducedWord(n, word); !ok || code != impl.ErrNone {
				t.Fatalf("IsReducedWord(%d, %v) = %v, %d", n, word, ok, code)
			}
			if back, loops, code := impl.ReduceWord(n, word); !slices.Equal(back, word) || loops != 0 || code != impl.ErrNone {
				t.Fatalf("ReduceWord(%d, %v) = %v, %d, %d", n, word, back, loops, code)
			}
		}
	}
}

func TestLengthsOfFlips(t *testing.T) {
	for n := int64(1); n <= 8; n++ {
		for _, d := range modelLists[n] {
			flip, _ := impl.FlipDiagram(d)
			first, _ := impl.LengthOfDiagram(d)
			second, _ := impl.LengthOfDiagram(flip)
			if first != second {
				t.Fatalf("the lengths of %v and its flip are %d and %d", d, first, second)
			}
		}
	}
}

func TestReducedWords(t *testing.T) {
	for n := int64(2); n <= 8; n++ {
		for _, word := range wordsOfSize(n) {
			d, loops := modelValue(n, word)
			want := modelWords[n][d].word
			got, left, code := impl.ReduceWord(n, word)
			if !slices.Equal(got, want) || left != loops || code != impl.ErrNone {
				t.Fatalf("ReduceWord(%d, %v) = %v, %d, %d", n, word, got, left, code)
			}
			isReduced, code := impl.IsReducedWord(n, word)
			if isReduced != (loops == 0 && len(word) == len(want)) || code != impl.ErrNone {
				t.Fatalf("IsReducedWord(%d, %v) = %v, %d", n, word, isReduced, code)
			}
		}
	}
	byHand := []struct {
		n         int64
		word      []int64
		reduced   []int64
		loops     int64
		isReduced bool
	}{
		{2, nil, nil, 0, true},
		{2, []int64{0}, []int64{0}, 0, true},
		{2, []int64{0, 0}, []int64{0}, 1, false},
		{2, repeated(0, 60), []int64{0}, 59, false},
		{3, []int64{0, 1, 0}, []int64{0}, 0, false},
		{3, []int64{1, 0}, []int64{1, 0}, 0, true},
		{4, []int64{2, 0}, []int64{0, 2}, 0, true},
		{4, []int64{1, 2, 0, 1}, []int64{1, 0, 2, 1}, 0, true},
		{8, []int64{6, 4, 2, 0}, []int64{0, 2, 4, 6}, 0, true},
		{8, []int64{6, 4, 2, 0, 6}, []int64{0, 2, 4, 6}, 1, false},
	}
	for _, c := range byHand {
		word, loops, first := impl.ReduceWord(c.n, c.word)
		isReduced, second := impl.IsReducedWord(c.n, c.word)
		if !slices.Equal(word, c.reduced) || loops != c.loops || isReduced != c.isReduced || first != impl.ErrNone || second != impl.ErrNone {
			t.Errorf("ReduceWord, IsReducedWord(%d, %v) = %v, %d, %v", c.n, c.word, word, loops, isReduced)
		}
	}
}

// TestDescents checks that descents are those generators whose product with the diagram, above or
// below it, is the diagram with one loop.
func TestDescents(t *testing.T) {
	for n := int64(1); n <= 8; n++ {
		for _, d := range modelLists[n] {
			wantUpper, wantLower := []int64{}, []int64{}
			for i := range n - 1 {
				if _, loops := modelProduct(modelGenerator(n, i), d); loops == 1 {
					wantUpper = append(wantUpper, i)
				}
				if _, loops := modelProduct(d, modelGenerator(n, i)); loops == 1 {
					wantLower = append(wantLower, i)
				}
			}
			upper, lower, code := impl.DescentsOf(d)
			if !slices.Equal(upper, wantUpper) || !slices.Equal(lower, wantLower) || code != impl.ErrNone {
				t.Fatalf("DescentsOf(%s) = %v, %v, %d", modelText(d), upper, lower, code)
			}
		}
	}
	upper, lower, _ := impl.DescentsOf(parsed(t, "()(())()"))
	if !slices.Equal(upper, []int64{0}) || !slices.Equal(lower, []int64{0}) {
		t.Errorf("DescentsOf = %v, %v", upper, lower)
	}
	upper, lower, _ = impl.DescentsOf(parsed(t, "()()(())"))
	if !slices.Equal(upper, []int64{0, 2}) || !slices.Equal(lower, []int64{1}) {
		t.Errorf("DescentsOf = %v, %v", upper, lower)
	}
}

// TestPermutationsOfDiagrams checks the second part of the promise 3.
func TestPermutationsOfDiagrams(t *testing.T) {
	for n := int64(1); n <= 8; n++ {
		for _, d := range modelLists[n] {
			list, code := impl.ShortPermutation(d)
			if !slices.Equal(list, modelPermutation(n, modelWords[n][d].word)) || code != impl.ErrNone {
				t.Fatalf("ShortPermutation(%s) = %v, %d", modelText(d), list, code)
			}
			if short, code := impl.IsShort(list); !short || !modelIsShort(list) || code != impl.ErrNone {
				t.Fatalf("IsShort(%v) = %v, %d", list, short, code)
			}
			if back, code := impl.DiagramOfPermutation(list); back != d || code != impl.ErrNone {
				t.Fatalf("DiagramOfPermutation(%v) = %v, %d", list, back, code)
			}
		}
	}
}

// TestShortPermutations goes through all permutations: the short ones are those of diagrams, and
// the others have three descending entries.
func TestShortPermutations(t *testing.T) {
	for n := int64(1); n <= 8; n++ {
		count := int64(0)
		forPermutations(n, func(list []int64) {
			want := modelIsShort(list)
			if short, code := impl.IsShort(list); short != want || code != impl.ErrNone {
				t.Fatalf("IsShort(%v) = %v, %d", list, short, code)
			}
			d, code := impl.DiagramOfPermutation(list)
			if !want {
				if d != none || code != impl.ErrState {
					t.Fatalf("DiagramOfPermutation(%v) = %v, %d", list, d, code)
				}
				return
			}
			count++
			found, known := modelWords[n][d]
			if !known || !slices.Equal(modelPermutation(n, found.word), list) || code != impl.ErrNone {
				t.Fatalf("DiagramOfPermutation(%v) = %v, %d", list, d, code)
			}
		})
		if count != catalans[n] {
			t.Errorf("size %d has %d short permutations", n, count)
		}
	}
}

func TestPermutationsByHand(t *testing.T) {
	for text, want := range map[string][]int64{
		"()": {0}, "(())": {0, 1}, "()()": {1, 0}, "(())()": {2, 0, 1}, "()(())": {1, 2, 0}, "(()())": {0, 2, 1}, "()()()()": {1, 0, 3, 2}, "(())(())": {2, 3, 0, 1},
		"(((((((())))))))": {0, 1, 2, 3, 4, 5, 6, 7}, "(((())))(((())))": {4, 5, 6, 7, 0, 1, 2, 3},
	} {
		if list, code := impl.ShortPermutation(parsed(t, text)); !slices.Equal(list, want) || code != impl.ErrNone {
			t.Errorf("ShortPermutation(%s) = %v, %d", text, list, code)
		}
		if d, code := impl.DiagramOfPermutation(want); d != parsed(t, text) || code != impl.ErrNone {
			t.Errorf("DiagramOfPermutation(%v) = %v, %d", want, d, code)
		}
	}
}

func TestLongestLengths(t *testing.T) {
	for i, want := range []int64{0, 1, 2, 4, 6, 9, 12, 16} {
		n := int64(i + 1)
		if length, code := impl.LongestLength(n); length != want || code != impl.ErrNone {
			t.Errorf("LongestLength(%d) = %d, %d", n, length, code)
		}
		longest := int64(0)
		for _, d := range modelLists[n] {
			length, _ := impl.LengthOfDiagram(d)
			longest = max(longest, length)
		}
		if longest != want {
			t.Errorf("the diagrams of %d have lengths up to %d", n, longest)
		}
	}
}

func TestTextsOfWords(t *testing.T) {
	for n := int64(2); n <= 8; n++ {
		for _, word := range wordsOfSize(n) {
			want := ""
			for _, i := range word {
				want += "0123456"[i : i+1]
			}
			text, code := impl.WordText(n, word)
			if text != want || code != impl.ErrNone {
				t.Fatalf("WordText(%d, %v) = %q, %d", n, word, text, code)
			}
			if back, code := impl.ParseWord(n, text); !slices.Equal(back, word) || code != impl.ErrNone {
				t.Fatalf("ParseWord(%d, %q) = %v, %d", n, text, back, code)
			}
		}
	}
	if word, code := impl.ParseWord(8, "0123456"); !slices.Equal(word, []int64{0, 1, 2, 3, 4, 5, 6}) || code != impl.ErrNone {
		t.Errorf("ParseWord = %v, %d", word, code)
	}
	if word, code := impl.ParseWord(8, strings.Repeat("6", 60)); !slices.Equal(word, repeated(6, 60)) || code != impl.ErrNone {
		t.Errorf("ParseWord = %v, %d", word, code)
	}
	if word, code := impl.ParseWord(2, ""); len(word) != 0 || code != impl.ErrNone {
		t.Errorf("ParseWord = %v, %d", word, code)
	}
}
