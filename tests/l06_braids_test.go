package tests

import (
	"slices"
	"testing"

	"loop.example/g01251/impl"
)

// Tests of chapter 6: what the functions return for braid words.

func TestLimitOfBraids(t *testing.T) {
	if impl.MaxBraid != 24 {
		t.Errorf("MaxBraid is %d", impl.MaxBraid)
	}
}

// TestLoopValues goes through all primes and numbers A.
func TestLoopValues(t *testing.T) {
	forModuli(func(p int64, a int64) {
		if a == 0 {
			return
		}
		want, b := modelLoopValue(p, a)
		for _, base := range []int64{a, b} {
			if c, code := impl.LoopValue(p, base); c != want || code != impl.ErrNone {
				t.Errorf("LoopValue(%d, %d) = %d, %d, not %d", p, base, c, code, want)
			}
		}
	})
}

func TestLoopValuesByHand(t *testing.T) {
	for _, row := range [][3]int64{{7, 1, 5}, {2, 1, 0}, {3, 1, 1}, {3, 2, 1}, {5, 1, 3}, {5, 2, 2}, {5, 3, 2}, {5, 4, 3}, {7, 2, 1}, {7, 3, 1}, {7, 6, 5}, {17, 2, 0}, {97, 1, 95}, {97, 96, 95}} {
		if c, code := impl.LoopValue(row[0], row[1]); c != row[2] || code != impl.ErrNone {
			t.Errorf("LoopValue(%d, %d) = %d, %d, not %d", row[0], row[1], c, code, row[2])
		}
	}
}

// TestElementsOfBraids goes through all short words.
func TestElementsOfBraids(t *testing.T) {
	for _, base := range someBases() {
		for n := int64(2); n <= 6; n++ {
			for _, word := range shortBraids[n] {
				x, code := impl.BraidElement(base[0], base[1], n, word)
				checkElement(t, "BraidElement", x, code, modelBraid(base[0], base[1], n, word))
			}
		}
	}
}

// TestElementsOfLongBraids goes through words of up to 24 numbers.
func TestElementsOfLongBraids(t *testing.T) {
	for _, base := range someBases() {
		for n := int64(2); n <= 6; n++ {
			for _, word := range longBraids(n, 24) {
				x, code := impl.BraidElement(base[0], base[1], n, word)
				checkElement(t, "BraidElement", x, code, modelBraid(base[0], base[1], n, word))
			}
		}
	}
}

func TestElementsOfBraidsByHand(t *testing.T) {
	for _, row := range []struct {
		p, a, n int64
		word    []int64
		text    string
	}{
		{7, 3, 2, nil, "1*(())"}, {7, 3, 6, []int64{}, "1*(((((())))))"}, {2, 1, 2, []int64{}, "1*(())"},
		{7, 1, 2, []int64{1}, "1*(())+1*()()"}, {7, 1, 2, []int64{-1}, "1*(())+1*()()"},
		{7, 3, 2, []int64{1}, "3*(())+5*()()"}, {7, 3, 2, []int64{-1}, "5*(())+3*()()"}, {7, 3, 2, []int64{1, 1}, "2*(())+6*()()"}, {7, 3, 2, []int64{1, -1}, "1*(())"},
		{7, 3, 3, []int64{1}, "3*((()))+5*()()()"}, {7, 3, 3, []int64{2}, "3*((()))+5*(()())"},
		{7, 3, 3, []int64{1, -2}, "1*((()))+2*(()())+1*()(())+4*()()()"}, {7, 3, 3, []int64{-2, 1}, "1*((()))+2*(()())+1*(())()+4*()()()"},
		{2, 1, 2, []int64{1, 1}, "1*(())"}, {2, 1, 3, []int64{1, 2}, "1*((()))+1*(()())+1*()(())+1*()()()"},
		{7, 3, 6, []int64{5}, "3*(((((())))))+5*((((()()))))"}, {7, 3, 6, []int64{-1}, "5*(((((())))))+3*()(((())))()"},
	} {
		if text, code := impl.ElementText(braided(t, row.p, row.a, row.n, row.word)); text != row.text || code != impl.ErrNone {
			t.Errorf("the element of %v for %d, %d and %d strands is %s, not %s", row.word, row.p, row.a, row.n, text, row.text)
		}
	}
}

// TestElementsOfPrimesAndLoops checks what elements of braid words have beside their terms.
func TestElementsOfPrimesAndLoops(t *testing.T) {
	forBases(func(p int64, a int64) {
		c, _ := impl.LoopValue(p, a)
		for n := int64(2); n <= 6; n++ {
			for _, word := range [][]int64{{}, {n - 1}, {1 - n, 1}} {
				x := braided(t, p, a, n, word)
				if x.Prime != p || x.Loop != c || x.Size != n || !sameElement(x, modelBraid(p, a, n, word)) {
					t.Errorf("BraidElement(%d, %d, %d, %v) = %v", p, a, n, word, x)
				}
			}
		}
	})
}

// TestElementsOfJoinedBraids checks that words one behind the other have the product of their
// elements.
func TestElementsOfJoinedBraids(t *testing.T) {
	for _, base := range someBases() {
		for n := int64(2); n <= 6; n++ {
			list := longBraids(n, 12)
			for k, word := range list {
				other := list[(k*5+3)%len(list)]
				x := braided(t, base[0], base[1], n, slices.Concat(word, other))
				product := times(t, braided(t, base[0], base[1], n, word), braided(t, base[0], base[1], n, other))
				if !sameElement(x, product) {
					t.Errorf("the element of %v and %v is %v, not %v", word, other, x, product)
				}
			}
		}
	}
}

// checkInverseBraid checks the half of promise 13 that this chapter has.
func checkInverseBraid(t *testing.T, p int64, a int64, n int64, word []int64) {
	t.Helper()
	one := modelElement(p, modelBraid(p, a, n, nil).Loop, n, modelSum{modelUnit(n): 1})
	x, y := braided(t, p, a, n, word), braided(t, p, a, n, opposite(word))
	if !sameElement(times(t, x, y), one) || !sameElement(times(t, y, x), one) {
		t.Errorf("the products of the elements of %v and its inverse for %d, %d and %d strands are no units", word, p, a, n)
	}
	if 2*len(word) > impl.MaxBraid {
		return
	}
	for _, both := range [][]int64{slices.Concat(word, opposite(word)), slices.Concat(opposite(word), word)} {
		if !sameElement(braided(t, p, a, n, both), one) || !equalBraids(t, p, a, n, both, nil) {
			t.Errorf("the element of %v for %d, %d and %d strands is not the unit", both, p, a, n)
		}
	}
}

// TestInversesOfBraids checks promise 13.
func TestInversesOfBraids(t *testing.T) {
	forBases(func(p int64, a int64) {
		for n := int64(2); n <= 6; n++ {
			for _, number := range crossings(n) {
				checkInverseBraid(t, p, a, n, []int64{number})
			}
		}
	})
	for _, base := range someBases() {
		for n := int64(2); n <= 6; n++ {
			for k, word := range shortBraids[n] {
				if k%5 == 0 {
					checkInverseBraid(t, base[0], base[1], n, word)
				}
			}
			for _, word := range longBraids(n, 12) {
				checkInverseBraid(t, base[0], base[1], n, word)
			}
		}
		for n := int64(2); n <= 6; n++ {
			for _, word := range longBraids(n, 24)[5:] {
				checkInverseBraid(t, base[0], base[1], n, word)
			}
		}
	}
}

// TestBrackets compares with the sums over all states, and values of Jones with them.
func TestBrackets(t *testing.T) {
	for _, base := range someBases() {
		p, a := base[0], base[1]
		for n := int64(2); n <= 6; n++ {
			for k, word := range shortBraids[n] {
				if n == 2 && len(word) > 4 && k%7 != 0 {
					continue
				}
				want := modelStates(p, a, n, word)
				if got := bracketed(t, p, a, n, word); got != want {
					t.Errorf("BracketOf(%d, %d, %d, %v) = %d, not %d", p, a, n, word, got, want)
				}
				if got := jones(t, p, a, n, word); got != modelJones(p, a, word, want) {
					t.Errorf("JonesValue(%d, %d, %d, %v) = %d, not %d", p, a, n, word, got, modelJones(p, a, word, want))
				}
			}
		}
	}
}

// TestBracketsOfLongBraids goes through words of up to 24 numbers. Brackets are traces without one
// loop.
func TestBracketsOfLongBraids(t *testing.T) {
	for _, base := range someBases() {
		p, a := base[0], base[1]
		for n := int64(2); n <= 6; n++ {
			for _, word := range longBraids(n, 24) {
				want := modelBracket(p, a, n, word)
				got := bracketed(t, p, a, n, word)
				if got != want {
					t.Errorf("BracketOf(%d, %d, %d, %v) = %d, not %d", p, a, n, word, got, want)
				}
				if got := jones(t, p, a, n, word); got != modelJones(p, a, word, want) {
					t.Errorf("JonesValue(%d, %d, %d, %v) = %d, not %d", p, a, n, word, got, modelJones(p, a, word, want))
				}
				x := braided(t, p, a, n, word)
				if trace := traced(t, x); trace != got*x.Loop%p {
					t.Errorf("the trace of %v for %d, %d and %d strands is %d, with the bracket %d", word, p, a, n, trace, got)
				}
			}
		}
	}
}

func TestBracketsByHand(t *testing.T) {
	for _, row := range []struct {
		p, a, n int64
		word    []int64
		want    int64
	}{
		{7, 1, 2, nil, 5}, {7, 1, 3, nil, 4}, {7, 1, 6, nil, 3}, {7, 3, 6, nil, 1}, {97, 1, 6, nil, 65},
		// Loop values that are 0: unlinked components have the bracket 0, one component has c to the power of 0.
		{2, 1, 2, nil, 0}, {2, 1, 6, nil, 0}, {17, 2, 2, nil, 0}, {2, 1, 2, []int64{1}, 1}, {17, 2, 2, []int64{1}, 9}, {17, 2, 2, []int64{-1}, 2}, {17, 2, 3, []int64{1}, 0},
		// One crossing has - A^3, its inverse - B^3.
		{7, 1, 2, []int64{1}, 6}, {7, 3, 2, []int64{1}, 1}, {7, 2, 2, []int64{1}, 6}, {7, 2, 2, []int64{-1}, 6}, {97, 2, 2, []int64{1}, 89}, {97, 2, 2, []int64{-1}, 12},
		// Two have - A^4 - B^4.
		{7, 2, 2, []int64{1, 1}, 1}, {7, 2, 2, []int64{-1, -1}, 1}, {97, 1, 2, []int64{1, 1}, 95}, {97, 1, 2, []int64{1, -1}, 95},
	} {
		if got := bracketed(t, row.p, row.a, row.n, row.word); got != row.want {
			t.Errorf("BracketOf(%d, %d, %d, %v) = %d, not %d", row.p, row.a, row.n, row.word, got, row.want)
		}
	}
}

// TestWrithes checks writhes, permutations and components, which need no prime.
func TestWrithes(t *testing.T) {
	for n := int64(2); n <= 6; n++ {
		for _, word := range slices.Concat(shortBraids[n], longBraids(n, 24)) {
			if writhe, code := impl.WritheOf(n, word); writhe != modelWrithe(word) || code != impl.ErrNone {
				t.Errorf("WritheOf(%d, %v) = %d, %d", n, word, writhe, code)
			}
			if list, code := impl.BraidPermutation(n, word); !slices.Equal(list, modelEnds(n, word)) || code != impl.ErrNone {
				t.Errorf("BraidPermutation(%d, %v) = %v, %d", n, word, list, code)
			}
			if components, code := impl.ComponentsOf(n, word); components != modelComponents(n, word) || code != impl.ErrNone {
				t.Errorf("ComponentsOf(%d, %v) = %d, %d", n, word, components, code)
			}
			if mirror, code := impl.MirrorWord(n, word); !slices.Equal(mirror, mirrored(word)) || code != impl.ErrNone {
				t.Errorf("MirrorWord(%d, %v) = %v, %d", n, word, mirror, code)
			}
		}
	}
}

func TestWrithesByHand(t *testing.T) {
	for _, row := range []struct {
		n                  int64
		word               []int64
		writhe, components int64
		ends               []int64
	}{
		{2, nil, 0, 2, []int64{0, 1}}, {6, []int64{}, 0, 6, []int64{0, 1, 2, 3, 4, 5}}, {2, []int64{1}, 1, 1, []int64{1, 0}}, {2, []int64{-1}, -1, 1, []int64{1, 0}}, {2, []int64{1, -1}, 0, 2, []int64{0, 1}},
		{3, []int64{1, 2}, 2, 1, []int64{2, 0, 1}}, {3, []int64{2, 1}, 2, 1, []int64{1, 2, 0}}, {3, []int64{1, -2}, 0, 1, []int64{2, 0, 1}}, {3, []int64{-1, -2, -1}, -3, 2, []int64{2, 1, 0}}, {3, []int64{1, -2, 1, -2, 1, -2}, 0, 3, []int64{0, 1, 2}},
		{6, []int64{1, 2, 3, 4, 5}, 5, 1, []int64{5, 0, 1, 2, 3, 4}}, {6, []int64{-5, -4, -3, -2, -1}, -5, 1, []int64{1, 2, 3, 4, 5, 0}}, {6, []int64{1, -3, 5}, 1, 3, []int64{1, 0, 3, 2, 5, 4}}, {6, []int64{5}, 1, 5, []int64{0, 1, 2, 3, 5, 4}},
		{4, repeated(3, 24), 24, 4, []int64{0, 1, 2, 3}}, {4, repeated(-3, 23), -23, 3, []int64{0, 1, 3, 2}},
	} {
		writhe, first := impl.WritheOf(row.n, row.word)
		components, second := impl.ComponentsOf(row.n, row.word)
		ends, third := impl.BraidPermutation(row.n, row.word)
		if writhe != row.writhe || components != row.components || !slices.Equal(ends, row.ends) || first != impl.ErrNone || second != impl.ErrNone || third != impl.ErrNone {
			t.Errorf("of %v for %d strands: writhe %d, %d components, permutation %v", row.word, row.n, writhe, components, ends)
		}
	}
}

// polynomial leads from exponents of B^2 to coefficients.
type polynomial map[int64]int64

// at returns the value of a polynomial for p and A = a.
func (f polynomial) at(p int64, a int64) int64 {
	b := modelInverse(p, a)
	total := int64(0)
	for exponent, k := range f {
		base := b
		if exponent < 0 {
			base = a
		}
		total += k * modelPowerOf(p, base, 2*distance(exponent))
	}
	return (total%p + p) % p
}

// torusPolynomial returns the polynomial of Jones of the knot that goes around a torus m and n times,
// which have no common divisor: t^((m - 1) (n - 1) / 2) (1 - t^(m + 1) - t^(n + 1) + t^(m + n)),
// divided by 1 - t^2, where t is B^4.
func torusPolynomial(m int64, n int64) polynomial {
	rest := make([]int64, m+n+3)
	rest[0]++
	rest[m+1]--
	rest[n+1]--
	rest[m+n]++
	f := polynomial{}
	for k := range m + n + 1 {
		f[2*k+(m-1)*(n-1)] += rest[k]
		rest[k+2] += rest[k]
	}
	return f
}

// torusBraid returns the word of 1 to m - 1, n times.
func torusBraid(m int64, n int64) []int64 {
	word := []int64{}
	for range n {
		for i := int64(1); i < m; i++ {
			word = append(word, i)
		}
	}
	return word
}

// TestKnownKnots checks values of Jones against the polynomials that are known of knots and links.
func TestKnownKnots(t *testing.T) {
	type row struct {
		n    int64
		word []int64
		want polynomial
	}
	rows := []row{
		{2, []int64{1}, polynomial{0: 1}}, {2, []int64{-1}, polynomial{0: 1}}, {3, []int64{1, -2}, polynomial{0: 1}}, {4, []int64{3, 2, 1}, polynomial{0: 1}}, {6, []int64{1, 2, 3, 4, 5}, polynomial{0: 1}}, {6, []int64{-4, 2, 1, -5, 3}, polynomial{0: 1}},
		{2, nil, polynomial{1: -1, -1: -1}}, {3, nil, polynomial{2: 1, 0: 2, -2: 1}}, {3, []int64{2}, polynomial{1: -1, -1: -1}}, {6, nil, polynomial{5: -1, 3: -5, 1: -10, -1: -10, -3: -5, -5: -1}},
		{2, []int64{1, 1}, polynomial{1: -1, 5: -1}}, {2, []int64{-1, -1}, polynomial{-1: -1, -5: -1}}, {2, []int64{1, 1, 1, 1}, polynomial{3: -1, 7: -1, 9: 1, 11: -1}},
		{2, []int64{1, 1, 1}, polynomial{2: 1, 6: 1, 8: -1}}, {2, []int64{-1, -1, -1}, polynomial{-2: 1, -6: 1, -8: -1}},
		{3, []int64{1, -2, 1, -2}, polynomial{4: 1, 2: -1, 0: 1, -2: -1, -4: 1}},
		{3, []int64{1, -2, 1, -2, 1, -2}, polynomial{6: -1, 4: 3, 2: -2, 0: 4, -2: -2, -4: 3, -6: -1}},
		{3, []int64{1, 1, 1, 2, -1, 2}, polynomial{2: 1, 4: -1, 6: 2, 8: -1, 10: 1, 12: -1}},
		{4, []int64{-1, -1, -2, 1, 3, -2, 3}, polynomial{4: 1, 2: -1, 0: 2, -2: -2, -4: 1, -6: -1, -8: 1}},
	}
	for _, pair := range [][2]int64{{2, 5}, {2, 7}, {2, 23}, {3, 2}, {3, 4}, {3, 5}, {3, 11}, {4, 3}, {4, 7}, {5, 2}, {5, 4}, {5, 6}, {6, 1}} {
		rows = append(rows, row{pair[0], torusBraid(pair[0], pair[1]), torusPolynomial(pair[0], pair[1])})
	}
	forBases(func(p int64, a int64) {
		for _, row := range rows {
			if got := jones(t, p, a, row.n, row.word); got != row.want.at(p, a) {
				t.Errorf("JonesValue(%d, %d, %d, %v) = %d, not %d", p, a, row.n, row.word, got, row.want.at(p, a))
			}
		}
	})
}

// TestTwistsOfTwoStrands goes through all powers of one crossing: A^k, and, for each j below k, A^(k -
// 1 - j) B (-B^3)^j for the generator.
func TestTwistsOfTwoStrands(t *testing.T) {
	forBases(func(p int64, a int64) {
		for k := range int64(25) {
			for _, sign := range []int64{1, -1} {
				base, b := a, modelInverse(p, a)
				if sign < 0 {
					base, b = b, a
				}
				sum := int64(0)
				for j := range k {
					sum += modelPowerOf(p, base, k-1-j) * b % p * modelPowerOf(p, p-b*b*b%p, j) % p
				}
				c, _ := modelLoopValue(p, a)
				want := modelElement(p, c, 2, modelSum{modelUnit(2): modelPowerOf(p, base, k), modelGenerator(2, 0): sum})
				word := repeated(sign, int(k))
				if x := braided(t, p, a, 2, word); !sameElement(x, want) {
					t.Errorf("BraidElement(%d, %d, 2, %v) = %v, not %v", p, a, word, x, want)
				}
			}
		}
	})
}

// checkMoves checks promise 6 for one word: values of Jones are kept by conjugation with each number,
// and by one more strand with both signs.
func checkMoves(t *testing.T, p int64, a int64, n int64, word []int64) {
	t.Helper()
	want := jones(t, p, a, n, word)
	if len(word)+2 <= impl.MaxBraid {
		for _, i := range crossings(n) {
			conjugate, code := impl.ConjugateWord(n, word, i)
			if got := jones(t, p, a, n, conjugate); got != want || code != impl.ErrNone {
				t.Errorf("JonesValue(%d, %d, %d) of %v is %d, but of %v it is %d", p, a, n, conjugate, got, word, want)
			}
		}
	}
	if n < 6 && len(word)+1 <= impl.MaxBraid {
		for _, sign := range []int64{1, -1} {
			stable, code := impl.StabilizeWord(n, word, sign)
			if got := jones(t, p, a, n+1, stable); got != want || code != impl.ErrNone {
				t.Errorf("JonesValue(%d, %d, %d) of %v is %d, but of %v it is %d", p, a, n+1, stable, got, word, want)
			}
		}
	}
}

// TestMovesKeepValues checks promise 6.
func TestMovesKeepValues(t *testing.T) {
	for _, base := range someBases() {
		for n := int64(2); n <= 6; n++ {
			for k, word := range shortBraids[n] {
				if k%5 == 0 {
					checkMoves(t, base[0], base[1], n, word)
				}
			}
			s := sampler(n)
			for _, length := range []int64{5, 10, 21, 22, 23} {
				checkMoves(t, base[0], base[1], n, s.braid(n, length))
			}
		}
	}
	forBases(func(p int64, a int64) {
		checkMoves(t, p, a, 2, []int64{1, 1, 1})
		checkMoves(t, p, a, 3, []int64{1, -2, 1, -2})
		checkMoves(t, p, a, 5, []int64{4, -3, 1, 2, 2})
	})
}

// TestMoves checks the words that conjugation and one more strand lead to, for all numbers, up to the
// longest ones.
func TestMoves(t *testing.T) {
	for n := int64(2); n <= 6; n++ {
		for _, word := range slices.Concat(shortBraids[n], longBraids(n, 22)) {
			for _, i := range crossings(n) {
				want := append(append([]int64{i}, word...), -i)
				if got, code := impl.ConjugateWord(n, word, i); !slices.Equal(got, want) || code != impl.ErrNone {
					t.Errorf("ConjugateWord(%d, %v, %d) = %v, %d", n, word, i, got, code)
				}
			}
		}
		for _, word := range slices.Concat(shortBraids[n], longBraids(n, 23)) {
			for _, sign := range []int64{1, -1} {
				want := append(slices.Clone(word), sign*n)
				if got, code := impl.StabilizeWord(n, word, sign); n < 6 && (!slices.Equal(got, want) || code != impl.ErrNone) {
					t.Errorf("StabilizeWord(%d, %v, %d) = %v, %d", n, word, sign, got, code)
				}
			}
		}
	}
}

// TestSkeinSums checks promise 6 for all places of words: skein sums are 0.
func TestSkeinSums(t *testing.T) {
	check := func(p int64, a int64, n int64, word []int64, k int64) {
		t.Helper()
		if total, code := impl.SkeinSum(p, a, n, word, k); total != 0 || code != impl.ErrNone {
			t.Errorf("SkeinSum(%d, %d, %d, %v, %d) = %d, %d", p, a, n, word, k, total, code)
		}
	}
	for _, base := range someBases() {
		for n := int64(2); n <= 6; n++ {
			for i, word := range shortBraids[n] {
				for k := range word {
					if (i+k)%3 == 0 {
						check(base[0], base[1], n, word, int64(k))
					}
				}
			}
			s := sampler(n)
			for _, length := range []int64{6, 23, 24} {
				word := s.braid(n, length)
				for _, k := range []int64{0, 1, length / 2, length - 2, length - 1} {
					check(base[0], base[1], n, word, k)
				}
			}
		}
	}
	forBases(func(p int64, a int64) {
		for k := range int64(4) {
			check(p, a, 3, []int64{1, -2, 1, 2}, k)
		}
	})
}

// TestSkeinOfValues checks that values of Jones themselves satisfy what skein sums tell.
func TestSkeinOfValues(t *testing.T) {
	for _, base := range someBases() {
		p, a := base[0], base[1]
		b := modelInverse(p, a)
		for n := int64(2); n <= 6; n++ {
			for _, word := range longBraids(n, 24)[7:] {
				k := len(word) / 2
				over, under := slices.Clone(word), slices.Clone(word)
				over[k], under[k] = distance(word[k]), -distance(word[k])
				total := modelPowerOf(p, a, 4)*jones(t, p, a, n, over) - modelPowerOf(p, b, 4)*jones(t, p, a, n, under)
				total += (a*a - b*b) * jones(t, p, a, n, slices.Concat(word[:k], word[k+1:]))
				if total%p != 0 {
					t.Errorf("values of Jones of %v with changes at %d for %d, %d and %d strands: %d", word, k, p, a, n, total)
				}
			}
		}
	}
}

// TestMirrorsOfBraids checks that the mirror word has for A what the word has for its inverse, and that it is
// the mirror of the mirror word.
func TestMirrorsOfBraids(t *testing.T) {
	for _, base := range someBases() {
		p, a := base[0], base[1]
		b := modelInverse(p, a)
		for n := int64(2); n <= 6; n++ {
			for _, word := range longBraids(n, 24) {
				mirror, _ := impl.MirrorWord(n, word)
				back, code := impl.MirrorWord(n, mirror)
				if !slices.Equal(back, word) || code != impl.ErrNone {
					t.Errorf("MirrorWord(%d, %v) = %v, %d", n, mirror, back, code)
				}
				if !sameElement(braided(t, p, a, n, mirror), braided(t, p, b, n, word)) || jones(t, p, a, n, mirror) != jones(t, p, b, n, word) {
					t.Errorf("%v for %d, %d and %d strands differs from its mirror for %d", word, p, a, n, b)
				}
			}
		}
	}
}

// TestEqualBraids goes through all pairs of short words.
func TestEqualBraids(t *testing.T) {
	for _, base := range [][2]int64{{2, 1}, {5, 1}, {5, 2}, {97, 5}} {
		p, a := base[0], base[1]
		for n, count := range map[int64]int{2: 31, 3: 85, 4: 43, 5: 41, 6: 61} {
			list := shortBraids[n][:count]
			elements := []impl.Element{}
			for _, word := range list {
				elements = append(elements, modelBraid(p, a, n, word))
			}
			for i, word := range list {
				for k, other := range list {
					if n > 3 && (i+k)%3 == 0 && i != k {
						continue
					}
					if got := equalBraids(t, p, a, n, word, other); got != sameElement(elements[i], elements[k]) {
						t.Errorf("AreEqualBraids(%d, %d, %d, %v, %v) = %v", p, a, n, word, other, got)
					}
				}
			}
		}
	}
}

// TestRelationsOfBraids checks words that are equal because their braids are.
func TestRelationsOfBraids(t *testing.T) {
	forBases(func(p int64, a int64) {
		for i := int64(1); i < 6; i++ {
			for k := int64(1); k < 6; k++ {
				word, other := []int64{i, k}, []int64{k, i}
				if distance(i-k) == 1 {
					word, other = append(word, i), append(other, k)
				}
				if !equalBraids(t, p, a, 6, word, other) || !equalBraids(t, p, a, 6, opposite(word), opposite(other)) {
					t.Errorf("%v and %v are not equal for %d and %d", word, other, p, a)
				}
			}
		}
	})
	for _, base := range someBases() {
		for n := int64(2); n <= 4; n++ {
			// A full turn of all strands goes along with each crossing.
			full := torusBraid(n, n)
			for _, i := range crossings(n) {
				if !equalBraids(t, base[0], base[1], n, append([]int64{i}, full...), append(slices.Clone(full), i)) {
					t.Errorf("a full turn of %d strands and %d for %v", n, i, base)
				}
			}
		}
		s := sampler(base[0])
		for n := int64(3); n <= 6; n++ {
			word := s.braid(n, 21)
			longer := slices.Concat(word[:10], []int64{1, 2, 1}, word[10:])
			other := slices.Concat(word[:10], []int64{2, 1, 2}, word[10:])
			if !equalBraids(t, base[0], base[1], n, longer, other) || !equalBraids(t, base[0], base[1], n, longer, longer) {
				t.Errorf("%v and %v are not equal for %v", longer, other, base)
			}
		}
	}
}

func TestEqualBraidsByHand(t *testing.T) {
	for _, row := range []struct {
		p, a, n     int64
		word, other []int64
		want        bool
	}{
		{7, 3, 2, nil, []int64{}, true}, {7, 3, 2, []int64{1}, []int64{1}, true}, {7, 3, 2, []int64{1}, []int64{-1}, false}, {7, 3, 2, []int64{1}, nil, false}, {7, 3, 2, nil, []int64{-1}, false},
		// If A is its own inverse, so is each crossing.
		{7, 1, 2, []int64{1}, []int64{-1}, true}, {97, 96, 6, []int64{5, -4}, []int64{-5, 4}, true}, {2, 1, 3, []int64{1, 2}, []int64{-1, -2}, true}, {7, 1, 3, []int64{1}, []int64{2}, false}, {2, 1, 2, []int64{1, 1}, nil, true},
		{97, 5, 3, []int64{1, 2}, []int64{2, 1}, false}, {97, 5, 3, []int64{1, 2, 1}, []int64{2, 1, 2}, true}, {97, 5, 4, []int64{1, 3}, []int64{3, 1}, true}, {97, 5, 4, []int64{1, -3, 2}, []int64{-3, 1, 2}, true}, {97, 5, 3, []int64{1, -2, 1}, []int64{-2, 1, -2}, false},
		{97, 5, 3, []int64{1, 2, -1}, []int64{-2, 1, 2}, true}, {97, 5, 6, repeated(5, 24), repeated(5, 24), true}, {97, 5, 6, repeated(5, 24), repeated(5, 23), false}, {89, 3, 6, repeated(5, 24), repeated(4, 24), false},
		// The factors of 24 equal crossings, A^24 and (- B^3)^24, are equal for 97, as A^96 is 1.
		{97, 5, 6, repeated(5, 24), repeated(4, 24), true},
	} {
		if got := equalBraids(t, row.p, row.a, row.n, row.word, row.other); got != row.want {
			t.Errorf("AreEqualBraids(%d, %d, %d, %v, %v) = %v", row.p, row.a, row.n, row.word, row.other, got)
		}
		if got := equalBraids(t, row.p, row.a, row.n, row.other, row.word); got != row.want {
			t.Errorf("AreEqualBraids(%d, %d, %d, %v, %v) = %v", row.p, row.a, row.n, row.other, row.word, got)
		}
	}
}
