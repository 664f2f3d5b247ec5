package tests

import (
	"slices"
	"testing"

	"loop.example/g01251/impl"
)

// Tests of chapter 6: errors, their order, and the memory of arguments and results.

// based06 are the functions that take a prime, an A and a braid word, with the answer whether their
// result is the zero value.
var based06 = map[string]func(p int64, a int64, n int64, word []int64) (bool, int64){
	"BraidElement": func(p int64, a int64, n int64, word []int64) (bool, int64) {
		x, code := impl.BraidElement(p, a, n, word)
		return isZeroElement(x), code
	},
	"BracketOf": func(p int64, a int64, n int64, word []int64) (bool, int64) {
		bracket, code := impl.BracketOf(p, a, n, word)
		return bracket == 0, code
	},
	"JonesValue": func(p int64, a int64, n int64, word []int64) (bool, int64) {
		value, code := impl.JonesValue(p, a, n, word)
		return value == 0, code
	},
	"SkeinSum": func(p int64, a int64, n int64, word []int64) (bool, int64) {
		total, code := impl.SkeinSum(p, a, n, word, 0)
		return total == 0, code
	},
	"AreEqualBraids": func(p int64, a int64, n int64, word []int64) (bool, int64) {
		equal, code := impl.AreEqualBraids(p, a, n, word, word)
		return !equal, code
	},
	"AreEqualBraids, first word": func(p int64, a int64, n int64, word []int64) (bool, int64) {
		equal, code := impl.AreEqualBraids(p, a, n, word, []int64{1})
		return !equal, code
	},
	"AreEqualBraids, second word": func(p int64, a int64, n int64, word []int64) (bool, int64) {
		equal, code := impl.AreEqualBraids(p, a, n, nil, word)
		return !equal, code
	},
}

// plain06 are the functions that take a braid word and no prime.
var plain06 = map[string]func(n int64, word []int64) (bool, int64){
	"WritheOf": func(n int64, word []int64) (bool, int64) {
		writhe, code := impl.WritheOf(n, word)
		return writhe == 0, code
	},
	"BraidPermutation": func(n int64, word []int64) (bool, int64) {
		list, code := impl.BraidPermutation(n, word)
		return len(list) == 0, code
	},
	"ComponentsOf": func(n int64, word []int64) (bool, int64) {
		components, code := impl.ComponentsOf(n, word)
		return components == 0, code
	},
	"MirrorWord": func(n int64, word []int64) (bool, int64) {
		mirror, code := impl.MirrorWord(n, word)
		return len(mirror) == 0, code
	},
	"ConjugateWord": func(n int64, word []int64) (bool, int64) {
		conjugate, code := impl.ConjugateWord(n, word, 1)
		return len(conjugate) == 0, code
	},
	"StabilizeWord": func(n int64, word []int64) (bool, int64) {
		stable, code := impl.StabilizeWord(n, word, -1)
		return len(stable) == 0, code
	},
}

func TestErrorsOfBases(t *testing.T) {
	for _, pair := range badBases() {
		p, a := pair[0], pair[1]
		if p > 1 && p < 98 && a > 0 && a < p && slices.Contains(primes, p) {
			t.Fatalf("%d is an A for %d", a, p)
		}
		if c, code := impl.LoopValue(p, a); c != 0 || code != impl.ErrRange {
			t.Errorf("LoopValue(%d, %d) = %d, %d", p, a, c, code)
		}
		for name, find := range based06 {
			for _, word := range [][]int64{{1}, {1, -2, 2}, repeated(1, 24), repeated(1, 25), {0}} {
				if zero, code := find(p, a, 3, word); !zero || code != impl.ErrRange {
					t.Errorf("%s of %v and %v: code %d", name, pair, word, code)
				}
			}
		}
	}
}

// TestBasesAtTheEnds checks the least and the greatest A of all primes.
func TestBasesAtTheEnds(t *testing.T) {
	for _, p := range primes {
		for _, a := range []int64{1, p - 1} {
			if _, code := impl.LoopValue(p, a); code != impl.ErrNone {
				t.Errorf("LoopValue(%d, %d): code %d", p, a, code)
			}
			for name, find := range based06 {
				if _, code := find(p, a, 2, []int64{1}); code != impl.ErrNone {
					t.Errorf("%s of %d and %d: code %d", name, p, a, code)
				}
			}
		}
	}
}

func TestErrorsOfBraids(t *testing.T) {
	for _, bad := range badBraids() {
		for name, find := range based06 {
			for _, pair := range [][2]int64{{7, 3}, {2, 1}, {97, 96}, {4, 1}, {7, 0}} {
				if zero, code := find(pair[0], pair[1], bad.n, bad.word); !zero || code != impl.ErrRange {
					t.Errorf("%s of %v and %v: code %d", name, pair, bad, code)
				}
			}
		}
		for name, find := range plain06 {
			if zero, code := find(bad.n, bad.word); !zero || code != impl.ErrRange {
				t.Errorf("%s of %v: code %d", name, bad, code)
			}
		}
	}
}

// TestBraidsAtTheEnds checks that the longest words, and the least and greatest numbers of them, have
// no errors.
func TestBraidsAtTheEnds(t *testing.T) {
	for n := int64(2); n <= 6; n++ {
		for _, word := range [][]int64{{n - 1}, {1 - n}, {1}, {-1}, repeated(n-1, 24), repeated(1-n, 24)} {
			for name, find := range based06 {
				if _, code := find(7, 3, n, word); code != impl.ErrNone {
					t.Errorf("%s of %v for %d strands: code %d", name, word, n, code)
				}
			}
			for name, find := range plain06 {
				zero, code := find(n, word)
				want := int64(impl.ErrNone)
				switch {
				case name == "StabilizeWord" && n == 6:
					want = impl.ErrRange
				case len(word) == 24 && (name == "ConjugateWord" || name == "StabilizeWord"):
					want = impl.ErrLimit
				}
				if code != want || zero != (want != impl.ErrNone) {
					t.Errorf("%s of %v for %d strands: code %d", name, word, n, code)
				}
			}
		}
	}
}

func TestErrorsOfSkeinSums(t *testing.T) {
	for n := int64(2); n <= 6; n++ {
		for _, length := range []int64{0, 1, 2, 5, 24} {
			word := repeated(n-1, int(length))
			for _, k := range append([]int64{length, length + 1, 24, 25, 1<<32 + length, -length - 1}, outside...) {
				if k >= 0 && k < length {
					continue
				}
				if total, code := impl.SkeinSum(7, 3, n, word, k); total != 0 || code != impl.ErrRange {
					t.Errorf("SkeinSum(7, 3, %d, %v, %d) = %d, %d", n, word, k, total, code)
				}
			}
			for _, k := range []int64{0, length - 1} {
				want := int64(impl.ErrNone)
				if length == 0 {
					want = impl.ErrRange
				}
				if total, code := impl.SkeinSum(7, 3, n, word, k); total != 0 || code != want {
					t.Errorf("SkeinSum(7, 3, %d, %v, %d) = %d, %d", n, word, k, total, code)
				}
			}
		}
		if total, code := impl.SkeinSum(7, 3, n, repeated(1, 25), 3); total != 0 || code != impl.ErrRange {
			t.Errorf("SkeinSum of 25 numbers = %d, %d", total, code)
		}
	}
}

// TestErrorsOfConjugation checks that ErrRange comes ahead of ErrLimit.
func TestErrorsOfConjugation(t *testing.T) {
	for n := int64(2); n <= 6; n++ {
		for _, length := range []int{0, 1, 21, 22, 23, 24, 25} {
			for _, i := range slices.Concat([]int64{0, n, n + 1, -n, -n - 1, 6, -6, 1<<32 + 1}, outside, crossings(n)) {
				want := int64(impl.ErrNone)
				switch {
				case length > 24 || !slices.Contains(crossings(n), i):
					want = impl.ErrRange
				case length > 22:
					want = impl.ErrLimit
				}
				word := repeated(1, length)
				got, code := impl.ConjugateWord(n, word, i)
				if code != want || len(got) != length+2 && want == impl.ErrNone || len(got) != 0 && want != impl.ErrNone {
					t.Errorf("ConjugateWord(%d, %v, %d) = %v, %d", n, word, i, got, code)
				}
			}
		}
	}
	for _, bad := range badBraids() {
		for _, i := range []int64{1, -1, 5, 0, 7} {
			if got, code := impl.ConjugateWord(bad.n, bad.word, i); len(got) != 0 || code != impl.ErrRange {
				t.Errorf("ConjugateWord(%v, %d) = %v, %d", bad, i, got, code)
			}
		}
	}
}

// TestErrorsOfStabilization checks that ErrRange comes ahead of ErrLimit.
func TestErrorsOfStabilization(t *testing.T) {
	for n := int64(1); n <= 7; n++ {
		for _, length := range []int{0, 1, 22, 23, 24, 25} {
			for _, sign := range append([]int64{1, 0, 2, 3, n, -n, 255, 1<<32 + 1}, outside...) {
				want := int64(impl.ErrNone)
				switch {
				case n < 2 || n > 5 || length > 24 || sign != 1 && sign != -1:
					want = impl.ErrRange
				case length > 23:
					want = impl.ErrLimit
				}
				word := repeated(1, length)
				got, code := impl.StabilizeWord(n, word, sign)
				if code != want || len(got) != length+1 && want == impl.ErrNone || len(got) != 0 && want != impl.ErrNone {
					t.Errorf("StabilizeWord(%d, %v, %d) = %v, %d", n, word, sign, got, code)
				}
			}
		}
	}
	for _, bad := range badBraids() {
		for _, sign := range []int64{1, -1, 0, 2} {
			if got, code := impl.StabilizeWord(bad.n, bad.word, sign); len(got) != 0 || code != impl.ErrRange {
				t.Errorf("StabilizeWord(%v, %d) = %v, %d", bad, sign, got, code)
			}
		}
	}
}

// lists06 are the functions that return lists.
var lists06 = map[string]func(n int64, word []int64) []int64{
	"BraidPermutation": func(n int64, word []int64) []int64 {
		list, _ := impl.BraidPermutation(n, word)
		return list
	},
	"MirrorWord": func(n int64, word []int64) []int64 {
		list, _ := impl.MirrorWord(n, word)
		return list
	},
	"ConjugateWord": func(n int64, word []int64) []int64 {
		list, _ := impl.ConjugateWord(n, word, 1)
		return list
	},
	"StabilizeWord": func(n int64, word []int64) []int64 {
		list, _ := impl.StabilizeWord(n, word, -1)
		return list
	},
}

// TestMemoryOfBraids checks that words are not changed, nor the spare capacity behind them, and that
// results share no memory with them, nor with later results.
func TestMemoryOfBraids(t *testing.T) {
	for _, want := range [][]int64{{}, {1}, {-4, 3}, {1, -2, 1, -2}, {4, 4, -1, 2, -3, 1}, repeated(-2, 22), repeated(3, 23), repeated(4, 24), repeated(1, 25), {5, 0}} {
		word, other := roomy(want), roomy(want)
		for _, find := range based06 {
			find(7, 3, 5, word)
		}
		for _, find := range plain06 {
			find(5, word)
		}
		for k := range want {
			impl.SkeinSum(7, 3, 5, word, int64(k))
		}
		impl.AreEqualBraids(7, 3, 5, word, other)
		if !isRoomy(word, want) || !isRoomy(other, want) {
			t.Errorf("%v became %v", want, word[:len(want)+3])
		}
		for name, find := range lists06 {
			kept := slices.Clone(find(5, word))
			fill(find(5, word))
			if !isRoomy(word, want) || !slices.Equal(find(5, word), kept) {
				t.Errorf("%s(5, %v) shares memory", name, want)
			}
		}
	}
}

func TestMemoryOfElementsOfBraids(t *testing.T) {
	for n := int64(2); n <= 6; n++ {
		for _, word := range [][]int64{{}, {1}, {1, -1, n - 1, 1 - n, 1}} {
			want := modelBraid(97, 5, n, word)
			scribble(braided(t, 97, 5, n, word))
			if got := braided(t, 97, 5, n, word); !sameElement(got, want) {
				t.Errorf("BraidElement(97, 5, %d, %v) = %v behind a change of another one", n, word, got)
			}
		}
	}
}
