package tests

import (
	"math"
	"slices"
	"testing"

	"loop.example/g01251/impl"
)

// This file holds a second, slow reading of chapter 6, against which the package is tested. It finds
// brackets as sums over all ways to smooth the crossings of a closed braid, and elements from the
// last crossing to the first one.

// distance returns a number without its sign.
func distance(k int64) int64 {
	if k < 0 {
		return -k
	}
	return k
}

// modelLoopValue returns the loop value, and the inverse of A.
func modelLoopValue(p int64, a int64) (int64, int64) {
	b := modelInverse(p, a)
	for c := range p {
		if (c+a*a+b*b)%p == 0 {
			return c, b
		}
	}
	return -1, b
}

// modelBraid returns the element of a braid word.
func modelBraid(p int64, a int64, n int64, word []int64) impl.Element {
	c, b := modelLoopValue(p, a)
	x := modelElement(p, c, n, modelSum{modelUnit(n): 1})
	for k := len(word) - 1; k >= 0; k-- {
		u := modelElement(p, c, n, modelSum{modelGenerator(n, distance(word[k])-1): 1})
		if word[k] > 0 {
			x = modelElement(p, c, n, modelSum{}.plus(modelSumOf(x), a).plus(modelKnownProduct(u, x), b))
		} else {
			x = modelElement(p, c, n, modelSum{}.plus(modelSumOf(x), b).plus(modelKnownProduct(u, x), a))
		}
	}
	return x
}

// modelStates returns the bracket: the sum, over all ways to put two lines in the place of each
// crossing, of A or B for each crossing, and c for each loop but one. Loops are the parts of a graph
// of the points between crossings.
func modelStates(p int64, a int64, n int64, word []int64) int64 {
	c, b := modelLoopValue(p, a)
	total := int64(0)
	for state := range 1 << len(word) {
		g := make(modelGraph, (len(word)+1)*int(n))
		factor := int64(1)
		for level, number := range word {
			i, turned := int(distance(number))-1, state>>level%2 == 1
			if turned == (number > 0) {
				factor = factor * b % p
			} else {
				factor = factor * a % p
			}
			above, below := level*int(n), (level+1)*int(n)
			for place := range int(n) {
				if !turned || place != i && place != i+1 {
					g.join(above+place, below+place)
				}
			}
			if turned {
				g.join(above+i, above+i+1)
				g.join(below+i, below+i+1)
			}
		}
		for place := range int(n) {
			g.join(place, len(word)*int(n)+place)
		}
		loops := int64(0)
		for i, k := range g.parts() {
			loops += int64(b2i(i == k))
		}
		total = (total + factor*modelPowerOf(p, c, loops-1)) % p
	}
	return total
}

// modelBracket returns the bracket from the element, for words that are too long for modelStates.
func modelBracket(p int64, a int64, n int64, word []int64) int64 {
	x := modelBraid(p, a, n, word)
	total := int64(0)
	for _, term := range x.Terms {
		total += term.Factor * modelLoops(x, modelClosure(term.Diagram)-1)
	}
	return total % p
}

// modelWrithe returns the writhe.
func modelWrithe(word []int64) int64 {
	writhe := int64(0)
	for _, number := range word {
		writhe += number / distance(number)
	}
	return writhe
}

// modelJones returns the value of Jones: a bracket, times one power for each crossing.
func modelJones(p int64, a int64, word []int64, bracket int64) int64 {
	b := modelInverse(p, a)
	for _, number := range word {
		if number > 0 {
			bracket = bracket * (p - b*b*b%p) % p
		} else {
			bracket = bracket * (p - a*a*a%p) % p
		}
	}
	return bracket
}

// modelEnds returns where strands end, which are followed one by one.
func modelEnds(n int64, word []int64) []int64 {
	ends := []int64{}
	for place := range n {
		for _, number := range word {
			if i := distance(number) - 1; place == i {
				place++
			} else if place == i+1 {
				place--
			}
		}
		ends = append(ends, place)
	}
	return ends
}

// modelComponents returns the number of parts of a graph in which places are joined with the ends of
// their strands.
func modelComponents(n int64, word []int64) int64 {
	g := make(modelGraph, n)
	for i, end := range modelEnds(n, word) {
		g.join(i, int(end))
	}
	components := int64(0)
	for i, k := range g.parts() {
		components += int64(b2i(i == k))
	}
	return components
}

// opposite returns the word of the inverse of a braid.
func opposite(word []int64) []int64 {
	list := []int64{}
	for _, number := range word {
		list = append([]int64{-number}, list...)
	}
	return list
}

// mirrored returns the opposites of all numbers.
func mirrored(word []int64) []int64 {
	list := opposite(word)
	slices.Reverse(list)
	return list
}

// braid picks a braid word.
func (s *sampler) braid(n int64, length int64) []int64 {
	word := make([]int64, length)
	for k := range word {
		word[k] = (1 + s.below(n-1)) * (1 - 2*s.below(2))
	}
	return word
}

// crossings returns all numbers that braid words for n strands can have.
func crossings(n int64) []int64 {
	list := []int64{}
	for number := 1 - n; number < n; number++ {
		if number != 0 {
			list = append(list, number)
		}
	}
	return list
}

// forBraids calls use with all braid words of a length.
func forBraids(n int64, length int, use func(word []int64)) {
	list := crossings(n)
	forWords(int64(len(list))+1, length, func(places []int64) {
		word := []int64{}
		for _, place := range places {
			word = append(word, list[place])
		}
		use(word)
	})
}

// shortBraids has, for each number of strands, all braid words of some lengths.
var shortBraids = func() [][][]int64 {
	lists := make([][][]int64, 7)
	for n, last := range map[int64]int{2: 8, 3: 4, 4: 3, 5: 2, 6: 2} {
		for length := range last + 1 {
			forBraids(n, length, func(word []int64) { lists[n] = append(lists[n], word) })
		}
	}
	return lists
}()

// longBraids returns braid words for n strands with lengths up to last: full ones of one number,
// alternating ones, and some others.
func longBraids(n int64, last int64) [][]int64 {
	list := [][]int64{{}, repeated(n-1, int(last)), repeated(1-n, int(last)), repeated(1, int(last)), repeated(-1, int(last))}
	turns := make([]int64, last)
	for k := range turns {
		turns[k] = (1 + int64(k)%(n-1)) * (1 - 2*int64(k%2))
	}
	list = append(list, turns)
	s := sampler(n*100 + last)
	for _, length := range []int64{1, 2, 5, last / 2, last - 1, last, last} {
		list = append(list, s.braid(n, length))
	}
	return list
}

// forBases calls use with primes and numbers A: all of the least primes, and some of the greater
// ones. For 2, and for 17 and 2, the loop value is 0.
func forBases(use func(p int64, a int64)) {
	forLoops(func(p int64, a int64) {
		if a > 0 {
			use(p, a)
		}
	})
	for _, a := range []int64{2, 8, 9, 15} {
		use(17, a)
	}
}

// someBases are some primes with numbers A.
func someBases() [][2]int64 {
	return [][2]int64{{2, 1}, {3, 2}, {5, 2}, {7, 3}, {17, 2}, {41, 3}, {97, 5}, {97, 96}}
}

// badBases returns pairs of which one is no prime in its range, or the other one no A for it.
func badBases() [][2]int64 {
	list := badModuli()
	for _, p := range primes {
		list = append(list, [2]int64{p, 0})
	}
	for _, p := range []int64{0, 1, 4, 6, 9, 49, 96, 98, 101, 103, 9409, -2, -7, math.MinInt64, math.MaxInt64} {
		list = append(list, [2]int64{p, 0}, [2]int64{p, 1}, [2]int64{p, 2}, [2]int64{p, 100}, [2]int64{p, -1})
	}
	return list
}

// badBraid is a list that is no braid word for n strands.
type badBraid struct {
	n    int64
	word []int64
}

// badBraids returns lists that are no braid words, because of their numbers of strands, lengths, or
// numbers.
func badBraids() []badBraid {
	list := []badBraid{}
	for _, n := range append([]int64{0, 1, 7, 8, 9, 258}, outside...) {
		for _, word := range [][]int64{nil, {}, {1}, {-1}, {0}, {n}, {n - 1}, {1, 1, 1}, repeated(1, 24), repeated(1, 25)} {
			list = append(list, badBraid{n, word})
		}
	}
	for n := int64(2); n <= 6; n++ {
		for _, number := range []int64{0, n, -n, n + 1, -n - 1, 7, -7, 256, 257, -255, 1<<32 + 1, 1 << 32, math.MinInt64, math.MinInt64 + 1, math.MaxInt64} {
			full := repeated(1, 24)
			full[23] = number
			list = append(list, badBraid{n, []int64{number}}, badBraid{n, []int64{1, number}}, badBraid{n, []int64{number, 1}}, badBraid{n, []int64{1, number, 1 - n}}, badBraid{n, full})
		}
		list = append(list, badBraid{n, repeated(1, 25)}, badBraid{n, repeated(1-n, 25)}, badBraid{n, repeated(n-1, 26)}, badBraid{n, repeated(1, 48)}, badBraid{n, repeated(-1, 280)}, badBraid{n, repeated(0, 25)})
	}
	return list
}

// braided returns the element of a braid word.
func braided(t *testing.T, p int64, a int64, n int64, word []int64) impl.Element {
	t.Helper()
	x, code := impl.BraidElement(p, a, n, word)
	if code != impl.ErrNone || !impl.IsElement(x) {
		t.Fatalf("BraidElement(%d, %d, %d, %v) = %v, %d", p, a, n, word, x, code)
	}
	return x
}

// bracketed returns the bracket of a braid word.
func bracketed(t *testing.T, p int64, a int64, n int64, word []int64) int64 {
	t.Helper()
	bracket, code := impl.BracketOf(p, a, n, word)
	if code != impl.ErrNone {
		t.Fatalf("BracketOf(%d, %d, %d, %v): code %d", p, a, n, word, code)
	}
	return bracket
}

// jones returns the value of Jones of a braid word.
func jones(t *testing.T, p int64, a int64, n int64, word []int64) int64 {
	t.Helper()
	value, code := impl.JonesValue(p, a, n, word)
	if code != impl.ErrNone {
		t.Fatalf("JonesValue(%d, %d, %d, %v): code %d", p, a, n, word, code)
	}
	return value
}

// equalBraids returns whether braid words have the same element.
func equalBraids(t *testing.T, p int64, a int64, n int64, word []int64, other []int64) bool {
	t.Helper()
	equal, code := impl.AreEqualBraids(p, a, n, word, other)
	if code != impl.ErrNone {
		t.Fatalf("AreEqualBraids(%d, %d, %d, %v, %v): code %d", p, a, n, word, other, code)
	}
	return equal
}
