package tests

import (
	"slices"
	"strings"
	"testing"

	"loop.example/g01251/impl"
)

// Tests of chapter 3: errors, their order, and the memory of arguments and results.

func TestErrorsOfWordsOfNoDiagrams(t *testing.T) {
	for _, bad := range badDiagrams() {
		if n, code := impl.LengthOfDiagram(bad); n != 0 || code != impl.ErrInvalid {
			t.Errorf("LengthOfDiagram(%v) = %d, %d", bad, n, code)
		}
		if word, code := impl.NormalWord(bad); len(word) != 0 || code != impl.ErrInvalid {
			t.Errorf("NormalWord(%v) = %v, %d", bad, word, code)
		}
		if n, code := impl.CountShortest(bad); n != 0 || code != impl.ErrInvalid {
			t.Errorf("CountShortest(%v) = %d, %d", bad, n, code)
		}
		if upper, lower, code := impl.DescentsOf(bad); len(upper) != 0 || len(lower) != 0 || code != impl.ErrInvalid {
			t.Errorf("DescentsOf(%v) = %v, %v, %d", bad, upper, lower, code)
		}
		if list, code := impl.ShortPermutation(bad); len(list) != 0 || code != impl.ErrInvalid {
			t.Errorf("ShortPermutation(%v) = %v, %d", bad, list, code)
		}
	}
}

func TestErrorsOfWords(t *testing.T) {
	for _, bad := range badWords() {
		n, word := bad.n, bad.word
		if d, loops, code := impl.ValueOfWord(n, word); d != none || loops != 0 || code != impl.ErrRange {
			t.Errorf("ValueOfWord(%d, %v) = %v, %d, %d", n, word, d, loops, code)
		}
		if x, loops, code := impl.ReduceWord(n, word); len(x) != 0 || loops != 0 || code != impl.ErrRange {
			t.Errorf("ReduceWord(%d, %v) = %v, %d, %d", n, word, x, loops, code)
		}
		if ok, code := impl.IsReducedWord(n, word); ok || code != impl.ErrRange {
			t.Errorf("IsReducedWord(%d, %v) = %v, %d", n, word, ok, code)
		}
		if text, code := impl.WordText(n, word); text != "" || code != impl.ErrRange {
			t.Errorf("WordText(%d, %v) = %q, %d", n, word, text, code)
		}
	}
}

// TestErrorsOfPermutations checks that ErrRange comes ahead of ErrState.
func TestErrorsOfPermutations(t *testing.T) {
	for _, bad := range badPermutations() {
		if modelIsPermutation(bad) {
			t.Fatalf("%v is a permutation", bad)
		}
		if short, code := impl.IsShort(bad); short || code != impl.ErrRange {
			t.Errorf("IsShort(%v) = %v, %d", bad, short, code)
		}
		if d, code := impl.DiagramOfPermutation(bad); d != none || code != impl.ErrRange {
			t.Errorf("DiagramOfPermutation(%v) = %v, %d", bad, d, code)
		}
	}
}

// TestListsThatAreNoPermutations goes through all lists of at most four small numbers.
func TestListsThatAreNoPermutations(t *testing.T) {
	for length := range 5 {
		forWords(7, length, func(list []int64) {
			for k := range list {
				list[k]--
			}
			want := int64(impl.ErrRange)
			if modelIsPermutation(list) {
				want = impl.ErrNone
			}
			if _, code := impl.IsShort(list); code != want {
				t.Fatalf("IsShort(%v): code %d", list, code)
			}
			if want == impl.ErrNone && !modelIsShort(list) {
				want = impl.ErrState
			}
			if _, code := impl.DiagramOfPermutation(list); code != want {
				t.Fatalf("DiagramOfPermutation(%v): code %d", list, code)
			}
		})
	}
}

func TestErrorsOfDescendingEntries(t *testing.T) {
	for _, list := range [][]int64{{2, 1, 0}, {3, 0, 2, 1}, {0, 3, 2, 1}, {2, 1, 0, 3}, {7, 6, 5, 4, 3, 2, 1, 0}, {7, 1, 2, 3, 4, 5, 6, 0}, {0, 1, 2, 3, 4, 7, 6, 5}, {2, 3, 1, 4, 5, 6, 7, 0}} {
		if short, code := impl.IsShort(list); short || code != impl.ErrNone {
			t.Errorf("IsShort(%v) = %v, %d", list, short, code)
		}
		if d, code := impl.DiagramOfPermutation(list); d != none || code != impl.ErrState {
			t.Errorf("DiagramOfPermutation(%v) = %v, %d", list, d, code)
		}
	}
}

func TestErrorsOfLongestLengths(t *testing.T) {
	for _, n := range append([]int64{0, 9, 10}, outside...) {
		if length, code := impl.LongestLength(n); length != 0 || code != impl.ErrRange {
			t.Errorf("LongestLength(%d) = %d, %d", n, length, code)
		}
	}
}

// TestErrorsOfTextsOfWords checks that ErrRange comes ahead of ErrSyntax.
func TestErrorsOfTextsOfWords(t *testing.T) {
	for _, n := range append([]int64{0, 1, 9, 10}, outside...) {
		for _, text := range []string{"", "0", "10", "x", strings.Repeat("0", 60), strings.Repeat("0", 61)} {
			if word, code := impl.ParseWord(n, text); len(word) != 0 || code != impl.ErrRange {
				t.Errorf("ParseWord(%d, %q) = %v, %d", n, text, word, code)
			}
		}
	}
	for n := int64(2); n <= 8; n++ {
		great := "0123456789"[n-1 : n]
		bad := []string{
			great, "0" + great, great + "0", "9", "-1", "-0", "+0", "0 ", " 0", "0,0", "0\n", "\n", "x", "0x0", "\x00", "\xff", "/", ":", "()", "０", "٠", "é",
			strings.Repeat("0", 59) + great, strings.Repeat("0", 59) + " ", strings.Repeat("0", 61), strings.Repeat("0", 60) + "\n", strings.Repeat("0", 5000),
		}
		for _, text := range bad {
			if word, code := impl.ParseWord(n, text); len(word) != 0 || code != impl.ErrSyntax {
				t.Errorf("ParseWord(%d, %q) = %v, %d", n, text, word, code)
			}
		}
		for letter := range 256 {
			text := string([]byte{'0', byte(letter)})
			isDigit := letter >= '0' && letter <= '0'+int(n)-2
			word, code := impl.ParseWord(n, text)
			if isDigit && (!slices.Equal(word, []int64{0, int64(letter - '0')}) || code != impl.ErrNone) || !isDigit && (len(word) != 0 || code != impl.ErrSyntax) {
				t.Errorf("ParseWord(%d, %q) = %v, %d", n, text, word, code)
			}
		}
	}
}

// roomy returns a list with numbers in the spare capacity behind it.
func roomy(list []int64) []int64 {
	long := append(slices.Clone(list), 71, 72, 73)
	return long[:len(list)]
}

// isRoomy reports whether a list and the spare capacity behind it are as roomy left them.
func isRoomy(list []int64, want []int64) bool {
	n := len(want)
	return slices.Equal(list, want) && slices.Equal(list[:n+3][n:], []int64{71, 72, 73})
}

// fill overwrites a list and the spare capacity behind it.
func fill(list []int64) {
	list = list[:cap(list)]
	for i := range list {
		list[i] = -77
	}
}

// TestMemoryOfWords checks that words and permutations are not changed, and that results share no
// memory with them.
func TestMemoryOfWords(t *testing.T) {
	for _, want := range [][]int64{{}, {0}, {1, 0}, {0, 0}, {1, 0, 2, 1}, {3, 6, 5, 0, 2, 0, 0, 1}, repeated(0, 60), repeated(6, 60)} {
		word := roomy(want)
		impl.ValueOfWord(8, word)
		impl.IsReducedWord(8, word)
		impl.WordText(8, word)
		x, _, _ := impl.ReduceWord(8, word)
		fill(x)
		if !isRoomy(word, want) {
			t.Errorf("%v became %v", want, word[:len(want)+3])
		}
	}
	for _, want := range [][]int64{{0}, {1, 0}, {2, 0, 1}, {2, 1, 0}, {4, 5, 6, 7, 0, 1, 2, 3}, {1, 0, 3, 2, 5, 4, 7, 6}, {0, 0}, {3, 2}, {}, {8, 7, 6, 5, 4, 3, 2, 1, 0}} {
		list := roomy(want)
		impl.IsShort(list)
		impl.DiagramOfPermutation(list)
		if !isRoomy(list, want) {
			t.Errorf("%v became %v", want, list[:len(want)+3])
		}
	}
}

// TestMemoryOfResults checks that results share no memory with each other, or with later results.
func TestMemoryOfResults(t *testing.T) {
	for _, text := range []string{"()", "(())", "()()", "()()(())", "(((())))(((())))", "()()()()()()()()"} {
		d := parsed(t, text)
		lists := func() [][]int64 {
			word, _ := impl.NormalWord(d)
			upper, lower, _ := impl.DescentsOf(d)
			list, _ := impl.ShortPermutation(d)
			both := [][]int64{word, upper, lower, list}
			if d.Size > 1 {
				reduced, _, _ := impl.ReduceWord(d.Size, word)
				digits, _ := impl.WordText(d.Size, word)
				parsed, _ := impl.ParseWord(d.Size, digits)
				both = append(both, reduced, parsed)
			}
			return both
		}
		want := lists()
		for i := range want {
			again := lists()
			fill(again[i])
			for k := range want {
				if k != i && !slices.Equal(again[k], want[k]) {
					t.Errorf("%s: list %d shares memory with list %d", text, k, i)
				}
			}
		}
		for i, list := range lists() {
			if !slices.Equal(list, want[i]) {
				t.Errorf("%s: list %d became %v", text, i, list)
			}
		}
	}
}
