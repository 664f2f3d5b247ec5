package tests

import (
	"slices"
	"strings"
	"testing"

	"loop.example/g01251/impl"
)

// Tests of chapter 9: errors, their order, and the memory of arguments and results.

var noBlobbed = impl.Blobbed{}

// one09 are the functions that take a blobbed diagram, with the answer whether their result is the zero
// value.
var one09 = map[string]func(d impl.Blobbed) (bool, int64){
	"BlobbedText": func(d impl.Blobbed) (bool, int64) {
		text, code := impl.BlobbedText(d)
		return text == "", code
	},
	"FlipBlobbed": func(d impl.Blobbed) (bool, int64) {
		flip, code := impl.FlipBlobbed(d)
		return flip == noBlobbed, code
	},
	"BareDiagram": func(d impl.Blobbed) (bool, int64) {
		bare, code := impl.BareDiagram(d)
		return bare == none, code
	},
	"BlobWordOf": func(d impl.Blobbed) (bool, int64) {
		word, code := impl.BlobWordOf(d)
		return len(word) == 0, code
	},
	"ClosureOfBlobbed": func(d impl.Blobbed) (bool, int64) {
		loops, code := impl.ClosureOfBlobbed(d)
		return len(loops) == 0, code
	},
}

// TestErrorsOfNoBlobbedDiagrams checks, since some are of sizes that are too great for words, also that
// ErrInvalid comes ahead of ErrRange.
func TestErrorsOfNoBlobbedDiagrams(t *testing.T) {
	for _, bad := range badBlobbed() {
		if impl.IsBlobbed(bad) || modelIsBlobbed(bad) {
			t.Errorf("IsBlobbed(%v) = true", bad)
		}
		for name, find := range one09 {
			if zero, code := find(bad); !zero || code != impl.ErrInvalid {
				t.Errorf("%s(%v): code %d", name, bad, code)
			}
		}
	}
}

// TestErrorsOfPairsOfBlobs checks that ErrInvalid comes ahead of ErrRange.
func TestErrorsOfPairsOfBlobs(t *testing.T) {
	for _, bad := range badBlobbed() {
		for _, text := range []string{"()", "[]", "[()]", "()[()]", "[((((()))))]", "[((((((()))))))]"} {
			good := blobbed(t, text)
			for _, pair := range [][2]impl.Blobbed{{bad, good}, {good, bad}, {bad, bad}} {
				if d, loops, code := impl.MultiplyBlobbed(pair[0], pair[1]); d != noBlobbed || len(loops) != 0 || code != impl.ErrInvalid {
					t.Errorf("MultiplyBlobbed(%v) = %v, %v, %d", pair, d, loops, code)
				}
			}
		}
	}
}

func TestErrorsOfSizesOfBlobs(t *testing.T) {
	for n := int64(1); n <= 8; n++ {
		for m := int64(1); m <= 8; m++ {
			for _, d := range []impl.Blobbed{modelLetter(n, -1), modelBlobs[n][len(modelBlobs[n])-1], modelBlobs[n][0]} {
				x, loops, code := impl.MultiplyBlobbed(d, modelLetter(m, -1))
				if n != m && (x != noBlobbed || len(loops) != 0 || code != impl.ErrRange) || n == m && code != impl.ErrNone {
					t.Errorf("MultiplyBlobbed of %v and the blob of %d: %v, %v, %d", d, m, x, loops, code)
				}
			}
		}
	}
}

func TestErrorsOfTextsOfBlobs(t *testing.T) {
	for _, text := range badBlobTexts() {
		if modelIsBlobText(text) {
			t.Errorf("%q is a text of a blobbed diagram", text)
		}
		if d, code := impl.ParseBlobbed(text); d != noBlobbed || code != impl.ErrSyntax {
			t.Errorf("ParseBlobbed(%q) = %v, %d", text, d, code)
		}
	}
	for _, text := range []string{"()", "[]", "[((((((()))))))]", "(((((((())))))))", "[][][][][][][][]", "()()()()()()()()", "[()()()()()()()]", "(()()()()()())[]"} {
		if blobText(t, blobbed(t, text)) != text {
			t.Errorf("ParseBlobbed(%q) = %v", text, blobbed(t, text))
		}
	}
}

func TestErrorsOfOpenLines(t *testing.T) {
	for _, bad := range badDiagrams() {
		if points, code := impl.OpenLines(bad); len(points) != 0 || code != impl.ErrInvalid {
			t.Errorf("OpenLines(%v) = %v, %d", bad, points, code)
		}
	}
}

// TestErrorsOfSizesOfBlobbed goes through numbers around the ranges of all functions.
func TestErrorsOfSizesOfBlobbed(t *testing.T) {
	for _, n := range slices.Concat([]int64{0, 1, 2, 3, 4, 5, 6, 7, 8, 9, 10, 16, 256, 257, 260, 1<<32 + 1, 1<<62 + 1}, outside) {
		isSize, isListed := n >= 1 && n <= 8, n >= 1 && n <= 4
		if d, code := impl.BlobOf(n); isSize && (d.Diagram.Size != n || code != impl.ErrNone) || !isSize && (d != noBlobbed || code != impl.ErrRange) {
			t.Errorf("BlobOf(%d) = %v, %d", n, d, code)
		}
		if count, code := impl.CountBlobbed(n); isSize && (count == 0 || code != impl.ErrNone) || !isSize && (count != 0 || code != impl.ErrRange) {
			t.Errorf("CountBlobbed(%d) = %d, %d", n, count, code)
		}
		if list, code := impl.AllBlobbed(n); isListed && (len(list) != len(modelBlobs[n]) || code != impl.ErrNone) || !isListed && (len(list) != 0 || code != impl.ErrRange) {
			t.Errorf("AllBlobbed(%d) has %d, code %d", n, len(list), code)
		}
	}
}

// TestErrorsOfBlobWords checks lists that are no words, with numbers just out of the range, also for the
// size 1, which has the blob alone.
func TestErrorsOfBlobWords(t *testing.T) {
	for _, bad := range badBlobWords() {
		if d, loops, code := impl.ValueOfBlobWord(bad.n, bad.word); d != noBlobbed || len(loops) != 0 || code != impl.ErrRange {
			t.Errorf("ValueOfBlobWord(%d, %v) = %v, %v, %d", bad.n, bad.word, d, loops, code)
		}
	}
	for n := int64(1); n <= 8; n++ {
		for number := int64(-4); number <= 12; number++ {
			for _, word := range [][]int64{{number}, {-1, number}, {number, -1}, append(repeated(-1, 59), number)} {
				isWord := number >= -1 && number <= n-2
				d, loops, code := impl.ValueOfBlobWord(n, word)
				if isWord && (!impl.IsBlobbed(d) || len(loops) != 2 || code != impl.ErrNone) || !isWord && (d != noBlobbed || len(loops) != 0 || code != impl.ErrRange) {
					t.Errorf("ValueOfBlobWord(%d, %v) = %v, %v, %d", n, word, d, loops, code)
				}
			}
		}
	}
}

// TestErrorsOfGreatBlobWords goes through blobbed diagrams of all sizes.
func TestErrorsOfGreatBlobWords(t *testing.T) {
	s := sampler(4)
	for n := int64(1); n <= 8; n++ {
		list := []impl.Blobbed{{Diagram: modelUnit(n)}, modelLetter(n, -1), modelBlobs[n][len(modelBlobs[n])-1]}
		for range 20 {
			list = append(list, s.blobbed(n))
		}
		for _, d := range list {
			word, code := impl.BlobWordOf(d)
			if n <= 4 && (!slices.Equal(word, modelBlobWords[n][d]) || code != impl.ErrNone) || n > 4 && (len(word) != 0 || code != impl.ErrRange) {
				t.Errorf("BlobWordOf(%v) = %v, %d", d, word, code)
			}
		}
	}
}

// TestMemoryOfBlobWords checks that words are not changed, nor the spare capacity behind them.
func TestMemoryOfBlobWords(t *testing.T) {
	for _, want := range [][]int64{{}, {-1}, {0}, {-1, 0, -1}, {0, -1, 0}, {3, 6, 5, 0, -1, 0, 0, 1}, {-2}, {7}, {0, 7, 0}, repeated(-1, 60), repeated(6, 60), repeated(6, 61)} {
		word := roomy(want)
		_, loops, _ := impl.ValueOfBlobWord(8, word)
		fill(loops)
		if !isRoomy(word, want) {
			t.Errorf("%v became %v", want, word[:len(want)+3])
		}
		if len(want) < 61 && !slices.Contains(want, -2) && !slices.Contains(want, 7) {
			checkNew(t, "ValueOfBlobWord", -77, func() []int64 {
				_, loops, _ := impl.ValueOfBlobWord(8, word)
				return loops
			})
		}
	}
}

func TestMemoryOfBlobs(t *testing.T) {
	for n := int64(1); n <= 4; n++ {
		checkNew(t, "AllBlobbed", noBlobbed, func() []impl.Blobbed {
			list, _ := impl.AllBlobbed(n)
			return list
		})
		for _, d := range modelBlobs[n] {
			checkNew(t, "BlobWordOf", -77, func() []int64 {
				word, _ := impl.BlobWordOf(d)
				return word
			})
		}
	}
	for _, text := range []string{"()", "[]", "[()]", "()()", "[][]", "()[()]", "[((((((()))))))]", strings.Repeat("[]", 8)} {
		d := blobbed(t, text)
		checkNew(t, "OpenLines", -77, func() []int64 {
			points, _ := impl.OpenLines(d.Diagram)
			return points
		})
		checkNew(t, "ClosureOfBlobbed", -77, func() []int64 {
			loops, _ := impl.ClosureOfBlobbed(d)
			return loops
		})
		checkNew(t, "MultiplyBlobbed", -77, func() []int64 {
			_, loops, _ := impl.MultiplyBlobbed(d, d)
			return loops
		})
	}
}
