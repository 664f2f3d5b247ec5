package tests

import (
	"math"
	"strconv"
	"strings"
	"testing"

	"loop.example/g01251/impl"
)

// This file holds a second, slow reading of chapter 2, against which the package is tested. It
// finds products and closures with the model of chapter 1.

// primes are all prime numbers in 2..97.
var primes = []int64{2, 3, 5, 7, 11, 13, 17, 19, 23, 29, 31, 37, 41, 43, 47, 53, 59, 61, 67, 71, 73, 79, 83, 89, 97}

// modelLists has all diagrams of each size, in order.
var modelLists = func() [][]impl.Diagram {
	lists := [][]impl.Diagram{nil}
	for n := int64(1); n <= 8; n++ {
		lists = append(lists, modelList(n))
	}
	return lists
}()

// modelSum leads from diagrams to their factors, which may be any numbers.
type modelSum map[impl.Diagram]int64

func modelSumOf(x impl.Element) modelSum {
	s := modelSum{}
	for _, term := range x.Terms {
		s[term.Diagram] += term.Factor
	}
	return s
}

// plus returns the sum of s and k times r.
func (s modelSum) plus(r modelSum, k int64) modelSum {
	total := modelSum{}
	for d, factor := range s {
		total[d] += factor
	}
	for d, factor := range r {
		total[d] += k * factor
	}
	return total
}

// modelElement returns the element for p, c and n that a sum stands for, whatever its length.
func modelElement(p int64, c int64, n int64, s modelSum) impl.Element {
	x := impl.Element{Prime: p, Loop: c, Size: n}
	for _, d := range modelLists[n] {
		if factor := ((s[d] % p) + p) % p; factor != 0 {
			x.Terms = append(x.Terms, impl.Term{Diagram: d, Factor: factor})
		}
	}
	return x
}

// modelLoops returns c to the power of loops, modulo p.
func modelLoops(x impl.Element, loops int64) int64 {
	power := int64(1)
	for range loops {
		power = power * x.Loop % x.Prime
	}
	return power
}

// modelMultiply returns the product of x and y, whatever its length.
func modelMultiply(x impl.Element, y impl.Element) impl.Element {
	s := modelSum{}
	for _, a := range x.Terms {
		for _, b := range y.Terms {
			d, loops := modelProduct(a.Diagram, b.Diagram)
			s[d] += a.Factor * b.Factor * modelLoops(x, loops)
		}
	}
	return modelElement(x.Prime, x.Loop, x.Size, s)
}

// modelFlip flips a diagram by its text, which is read backwards.
func modelFlip(d impl.Diagram) impl.Diagram {
	text := modelText(d)
	letters := make([]byte, len(text))
	for i := range text {
		letters[len(text)-1-i] = ")("[b2i(text[i] == ')')]
	}
	return modelDiagram(string(letters))
}

// modelInclude puts a line at the right of a diagram.
func modelInclude(d impl.Diagram) impl.Diagram {
	text := modelText(d)
	return modelDiagram(text[:len(text)/2] + "()" + text[len(text)/2:])
}

// modelCloseLast joins the last points of both sides, and returns what is left, and the loops.
func modelCloseLast(d impl.Diagram) (impl.Diagram, int64) {
	n := int(d.Size)
	g := make(modelGraph, 2*n)
	for i := range 2 * n {
		g.join(i, int(d.Mate[i]))
	}
	g.join(n-1, 2*n-1)
	part := g.parts()
	left, loops := impl.Diagram{Size: d.Size - 1}, int64(1)
	for i := range 2 * n {
		for j := range 2 * n {
			if i == j || part[i] != part[j] || i%n == n-1 || j%n == n-1 {
				continue
			}
			left.Mate[i-b2i(i >= n)] = byte(j - b2i(j >= n))
		}
		if part[i] == part[n-1] && i%n != n-1 {
			loops = 0
		}
	}
	return left, loops
}

// modelTrace returns the trace of x.
func modelTrace(x impl.Element) int64 {
	trace := int64(0)
	for _, term := range x.Terms {
		trace += term.Factor * modelLoops(x, modelClosure(term.Diagram))
	}
	return trace % x.Prime
}

// modelElementText returns the text of x.
func modelElementText(x impl.Element) string {
	text := "0"
	for i, term := range x.Terms {
		if i == 0 {
			text = ""
		} else {
			text += "+"
		}
		text += strconv.Itoa(int(term.Factor)) + "*" + modelText(term.Diagram)
	}
	return text
}

// modelOne returns the unit like x.
func modelOne(x impl.Element) impl.Element {
	text := strings.Repeat("(", int(x.Size)) + strings.Repeat(")", int(x.Size))
	return modelElement(x.Prime, x.Loop, x.Size, modelSum{modelDiagram(text): 1})
}

// modelGenerators returns the elements like x of all generators.
func modelGenerators(x impl.Element) []impl.Element {
	list := []impl.Element{}
	for i := range int(x.Size) - 1 {
		before, behind := strings.Repeat("(", i), strings.Repeat("(", int(x.Size)-2-i)
		half := before + "()" + behind
		other := strings.Repeat(")", len(behind)) + "()" + strings.Repeat(")", len(before))
		list = append(list, modelElement(x.Prime, x.Loop, x.Size, modelSum{modelDiagram(half + other): 1}))
	}
	return list
}

// sameElement reports whether x and y are equal, where no terms may be nil or empty.
func sameElement(x impl.Element, y impl.Element) bool {
	if x.Prime != y.Prime || x.Loop != y.Loop || x.Size != y.Size || len(x.Terms) != len(y.Terms) {
		return false
	}
	for i := range x.Terms {
		if x.Terms[i] != y.Terms[i] {
			return false
		}
	}
	return true
}

func isZeroElement(x impl.Element) bool {
	return sameElement(x, impl.Element{})
}

// checkElement tells of a result that is not the wanted element, or that is no element.
func checkElement(t *testing.T, name string, got impl.Element, code int64, want impl.Element) {
	t.Helper()
	if len(want.Terms) > impl.MaxTerms {
		if !isZeroElement(got) || code != impl.ErrLimit {
			t.Fatalf("%s of %d terms: %v, %d", name, len(want.Terms), got, code)
		}
		return
	}
	if !sameElement(got, want) || code != impl.ErrNone || !impl.IsElement(got) {
		t.Fatalf("%s = %v, %d, not %v", name, got, code, want)
	}
}

// sampler picks numbers that depend on nothing but the calls before.
type sampler uint64

func (s *sampler) below(n int64) int64 {
	*s = *s*6364136223846793005 + 1442695040888963407
	return int64(uint64(*s)>>33) % n
}

// element picks an element with at most so many terms.
func (s *sampler) element(p int64, c int64, n int64, terms int64) impl.Element {
	list := modelLists[n]
	sum := modelSum{}
	for range terms {
		sum[list[s.below(int64(len(list)))]] = 1 + s.below(p-1)
	}
	return modelElement(p, c, n, sum)
}

// firstTerms returns the element of so many diagrams, from the diagram with the number from on.
func firstTerms(p int64, c int64, n int64, from int, terms int) impl.Element {
	s := modelSum{}
	for i, d := range modelLists[n][from : from+terms] {
		s[d] = 1 + int64(i)%(p-1)
	}
	return modelElement(p, c, n, s)
}

// someKinds are primes, loops and sizes.
func someKinds() [][3]int64 {
	kinds := [][3]int64{}
	for _, p := range []int64{2, 3, 5, 7, 97} {
		for _, c := range []int64{0, 1, 2, p - 1} {
			if c >= p || c == 1 && p == 2 {
				continue
			}
			for n := int64(1); n <= 8; n++ {
				kinds = append(kinds, [3]int64{p, c, n})
			}
		}
	}
	return append(kinds, [3]int64{2, 1, 1}, [3]int64{2, 1, 4}, [3]int64{2, 1, 8}, [3]int64{89, 45, 5})
}

// elementsOfKind returns elements that are alike: no terms, the unit, all generators, one with many
// terms, and some others.
func elementsOfKind(kind [3]int64) []impl.Element {
	p, c, n := kind[0], kind[1], kind[2]
	s := sampler(p*10000 + c*10 + n)
	zero := impl.Element{Prime: p, Loop: c, Size: n}
	list := append([]impl.Element{zero, modelOne(zero)}, modelGenerators(zero)...)
	for _, terms := range []int64{1, 3, 8, 20} {
		list = append(list, s.element(p, c, n, terms))
	}
	return list
}

// someElements returns elements of all kinds, and some with 140 terms.
func someElements() []impl.Element {
	list := []impl.Element{}
	for _, kind := range someKinds() {
		list = append(list, elementsOfKind(kind)...)
	}
	return append(list, firstTerms(97, 96, 8, 1000, 140), firstTerms(2, 0, 7, 289, 140), firstTerms(5, 3, 6, 0, 132))
}

// badElements returns structs that are no elements.
func badElements() []impl.Element {
	one, cup := modelDiagram("(())"), modelDiagram("()()")
	terms := func(list ...impl.Term) []impl.Term { return list }
	list := []impl.Element{
		{},
		{Prime: 5, Loop: 2, Size: 2, Terms: terms(impl.Term{Diagram: cup, Factor: 1}, impl.Term{Diagram: one, Factor: 1})},
		{Prime: 5, Loop: 2, Size: 2, Terms: terms(impl.Term{Diagram: one, Factor: 1}, impl.Term{Diagram: one, Factor: 2})},
		{Prime: 5, Loop: 2, Size: 2, Terms: terms(impl.Term{Diagram: one, Factor: 1}, impl.Term{Diagram: cup, Factor: 2}, impl.Term{Diagram: cup, Factor: 3})},
		{Prime: 5, Loop: 2, Size: 2, Terms: terms(impl.Term{Diagram: modelDiagram("()"), Factor: 1})},
		{Prime: 5, Loop: 2, Size: 2, Terms: terms(impl.Term{Diagram: one, Factor: 1}, impl.Term{Diagram: modelDiagram("(()())"), Factor: 1})},
		{Prime: 5, Loop: 2, Size: 1, Terms: terms(impl.Term{Diagram: one, Factor: 1})},
		{Prime: 5, Loop: 2, Size: 2, Terms: terms(impl.Term{})},
		{Prime: 5, Loop: 2, Size: 2, Terms: terms(impl.Term{Factor: 1})},
		firstTerms(97, 3, 7, 0, 141), firstTerms(2, 1, 8, 0, 1430),
	}
	for _, factor := range []int64{0, -1, -4, 5, 6, math.MinInt64, math.MaxInt64} {
		list = append(list,
			impl.Element{Prime: 5, Loop: 2, Size: 2, Terms: terms(impl.Term{Diagram: one, Factor: factor})},
			impl.Element{Prime: 5, Loop: 2, Size: 2, Terms: terms(impl.Term{Diagram: one, Factor: 1}, impl.Term{Diagram: cup, Factor: factor})})
	}
	for _, p := range []int64{-97, -2, -1, 0, 1, 4, 6, 9, 25, 49, 77, 91, 95, 96, 98, 99, 100, 101, 103, math.MinInt64, math.MaxInt64} {
		list = append(list, impl.Element{Prime: p, Size: 2}, impl.Element{Prime: p, Size: 2, Terms: terms(impl.Term{Diagram: one, Factor: 1})})
	}
	for _, c := range []int64{-1, 5, 6, -5, math.MinInt64, math.MaxInt64} {
		list = append(list, impl.Element{Prime: 5, Loop: c, Size: 2, Terms: terms(impl.Term{Diagram: one, Factor: 1})}, impl.Element{Prime: 5, Loop: c, Size: 2})
	}
	for _, n := range []int64{0, -1, 9, 10, math.MinInt64, math.MaxInt64} {
		list = append(list, impl.Element{Prime: 5, Loop: 2, Size: n}, impl.Element{Prime: 5, Loop: 2, Size: n, Terms: terms(impl.Term{Diagram: one, Factor: 1})})
	}
	for _, d := range badDiagrams() {
		list = append(list, impl.Element{Prime: 5, Loop: 2, Size: d.Size, Terms: terms(impl.Term{Diagram: d, Factor: 1})})
	}
	return list
}
