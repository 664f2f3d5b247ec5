package tests

import (
	"math"
	"strings"
	"testing"

	"loop.example/g01251/impl"
)

// Tests of chapter 2: errors, their order, limits, and the memory of arguments and results.

// one02 and two02 are the functions of one and of two elements that return an element.
var one02 = map[string]func(impl.Element) (impl.Element, int64){
	"FlipElement": impl.FlipElement, "InverseElement": impl.InverseElement, "PartialClosure": impl.PartialClosure, "IncludeElement": impl.IncludeElement,
	"ScaleElement": func(x impl.Element) (impl.Element, int64) { return impl.ScaleElement(x, 1) },
	"PowerElement": func(x impl.Element) (impl.Element, int64) { return impl.PowerElement(x, 1) },
	"the power 0":  func(x impl.Element) (impl.Element, int64) { return impl.PowerElement(x, 0) },
	"a multiple":   func(x impl.Element) (impl.Element, int64) { return impl.ScaleElement(x, 2) },
}

var two02 = map[string]func(impl.Element, impl.Element) (impl.Element, int64){
	"AddElements": impl.AddElements, "MultiplyElements": impl.MultiplyElements, "CommutatorElement": impl.CommutatorElement,
}

func TestErrorsOfNoElements(t *testing.T) {
	good, other := firstTerms(5, 2, 2, 0, 2), firstTerms(7, 2, 8, 0, 140)
	for _, bad := range badElements() {
		if impl.IsElement(bad) {
			t.Errorf("IsElement(%v) = true", bad)
		}
		for name, f := range one02 {
			if x, code := f(bad); !isZeroElement(x) || code != impl.ErrInvalid {
				t.Errorf("%s(%v) = %v, %d", name, bad, x, code)
			}
		}
		for name, f := range two02 {
			for _, pair := range [][2]impl.Element{{bad, good}, {good, bad}, {bad, bad}, {bad, other}, {other, bad}} {
				if x, code := f(pair[0], pair[1]); !isZeroElement(x) || code != impl.ErrInvalid {
					t.Errorf("%s(%v) = %v, %d", name, pair, x, code)
				}
			}
		}
		if trace, code := impl.TraceOf(bad); trace != 0 || code != impl.ErrInvalid {
			t.Errorf("TraceOf(%v) = %d, %d", bad, trace, code)
		}
		if text, code := impl.ElementText(bad); text != "" || code != impl.ErrInvalid {
			t.Errorf("ElementText(%v) = %q, %d", bad, text, code)
		}
		if central, code := impl.IsCentralElement(bad); central || code != impl.ErrInvalid {
			t.Errorf("IsCentralElement(%v) = %v, %d", bad, central, code)
		}
		for _, k := range []int64{-1000001, 1000001, math.MinInt64, math.MaxInt64} {
			x, first := impl.ScaleElement(bad, k)
			y, second := impl.PowerElement(bad, k)
			if !isZeroElement(x) || !isZeroElement(y) || first != impl.ErrInvalid || second != impl.ErrInvalid {
				t.Errorf("ScaleElement, PowerElement(%v, %d): codes %d, %d", bad, k, first, second)
			}
		}
	}
}

func TestErrorsOfElementOf(t *testing.T) {
	for _, bad := range badDiagrams() {
		for _, p := range []int64{5, 4} {
			for _, k := range []int64{1, 0, 1000001} {
				if x, code := impl.ElementOf(p, 2, bad, k); !isZeroElement(x) || code != impl.ErrInvalid {
					t.Errorf("ElementOf(%d, 2, %v, %d) = %v, %d", p, bad, k, x, code)
				}
			}
		}
	}
	d := modelDiagram("(())")
	for _, k := range []int64{-1000001, 1000001, math.MinInt64, math.MaxInt64} {
		if x, code := impl.ElementOf(5, 2, d, k); !isZeroElement(x) || code != impl.ErrRange {
			t.Errorf("ElementOf of %d = %v, %d", k, x, code)
		}
	}
	for _, pair := range badModuli() {
		for _, k := range []int64{1, 0, 1000001} {
			if x, code := impl.ElementOf(pair[0], pair[1], d, k); !isZeroElement(x) || code != impl.ErrRange {
				t.Errorf("ElementOf(%v) = %v, %d", pair, x, code)
			}
		}
	}
}

// badModuli returns pairs of which one is no prime in its range, or the other one no loop for it.
func badModuli() [][2]int64 {
	list := [][2]int64{}
	for p := int64(-10); p <= 120; p++ {
		isPrime := false
		for _, q := range primes {
			isPrime = isPrime || p == q
		}
		if isPrime {
			list = append(list, [2]int64{p, -1}, [2]int64{p, p}, [2]int64{p, p + 1}, [2]int64{p, -p}, [2]int64{p, math.MaxInt64}, [2]int64{p, math.MinInt64})
		} else {
			list = append(list, [2]int64{p, 0}, [2]int64{p, 1}, [2]int64{p, p - 1})
		}
	}
	return append(list, [2]int64{math.MaxInt64, 0}, [2]int64{math.MinInt64, 0}, [2]int64{1 << 32, 1}, [2]int64{9409, 3})
}

func TestErrorsOfElementsThatAreNotAlike(t *testing.T) {
	kinds := [][3]int64{{5, 2, 3}, {7, 2, 3}, {5, 3, 3}, {5, 2, 4}, {2, 0, 1}, {97, 96, 8}}
	for i, a := range kinds {
		for k, b := range kinds {
			x := impl.Element{Prime: a[0], Loop: a[1], Size: a[2]}
			y := impl.Element{Prime: b[0], Loop: b[1], Size: b[2]}
			for name, f := range two02 {
				for _, pair := range [][2]impl.Element{{x, y}, {modelOne(x), modelOne(y)}} {
					got, code := f(pair[0], pair[1])
					if i != k && (!isZeroElement(got) || code != impl.ErrRange) || i == k && code != impl.ErrNone {
						t.Errorf("%s(%v) = %v, %d", name, pair, got, code)
					}
				}
			}
		}
	}
	// Those have more than enough terms for ErrLimit.
	x, y := firstTerms(97, 3, 8, 0, 140), firstTerms(97, 4, 8, 140, 140)
	for name, f := range two02 {
		if got, code := f(x, y); !isZeroElement(got) || code != impl.ErrRange {
			t.Errorf("%s = %v, %d", name, got, code)
		}
	}
}

func TestErrorsOfMultiplesAndPowers(t *testing.T) {
	for _, x := range []impl.Element{firstTerms(5, 2, 2, 0, 2), {Prime: 2, Loop: 1, Size: 8}, firstTerms(97, 3, 8, 200, 140)} {
		for _, k := range []int64{-1000001, 1000001, math.MinInt64, math.MaxInt64} {
			if got, code := impl.ScaleElement(x, k); !isZeroElement(got) || code != impl.ErrRange {
				t.Errorf("ScaleElement(%v, %d) = %v, %d", x, k, got, code)
			}
		}
		for _, k := range []int64{-1000000, 1000000} {
			if _, code := impl.ScaleElement(x, k); code != impl.ErrNone {
				t.Errorf("ScaleElement(%v, %d): code %d", x, k, code)
			}
		}
		for _, k := range []int64{-1, 21, 1000, math.MinInt64, math.MaxInt64} {
			if got, code := impl.PowerElement(x, k); !isZeroElement(got) || code != impl.ErrRange {
				t.Errorf("PowerElement(%v, %d) = %v, %d", x, k, got, code)
			}
		}
		got, code := impl.PowerElement(x, 0)
		checkElement(t, "PowerElement", got, code, modelOne(x))
	}
}

func TestErrorsOfInverses(t *testing.T) {
	for n := int64(1); n <= 8; n++ {
		for _, x := range []impl.Element{{Prime: 5, Loop: 2, Size: n}, modelOne(impl.Element{Prime: 5, Loop: 2, Size: n})} {
			got, code := impl.InverseElement(x)
			switch {
			case n > 4 && (!isZeroElement(got) || code != impl.ErrRange):
				t.Errorf("InverseElement(%v) = %v, %d", x, got, code)
			case n <= 4 && len(x.Terms) == 0 && (!isZeroElement(got) || code != impl.ErrNotFound):
				t.Errorf("InverseElement(%v) = %v, %d", x, got, code)
			case n <= 4 && len(x.Terms) > 0 && (!sameElement(got, x) || code != impl.ErrNone):
				t.Errorf("InverseElement(%v) = %v, %d", x, got, code)
			}
		}
	}
	for _, c := range []struct {
		p, c, n int64
		text    string
	}{
		{5, 2, 2, "1*()()"}, {5, 2, 2, "1*(())+2*()()"}, {2, 1, 2, "1*(())+1*()()"}, {97, 1, 3, "1*((()))+96*()(())"}, {97, 0, 4, "1*()()()()"}, {97, 96, 2, "1*(())+1*()()"},
	} {
		x, _ := impl.ParseElement(c.p, c.c, c.n, c.text)
		if got, code := impl.InverseElement(x); !isZeroElement(got) || code != impl.ErrNotFound {
			t.Errorf("InverseElement(%q) = %v, %d", c.text, got, code)
		}
	}
}

func TestErrorsOfSizesOfElements(t *testing.T) {
	for n := int64(1); n <= 8; n++ {
		for _, x := range []impl.Element{{Prime: 5, Loop: 2, Size: n}, modelOne(impl.Element{Prime: 5, Loop: 2, Size: n})} {
			closed, first := impl.PartialClosure(x)
			if n == 1 && (!isZeroElement(closed) || first != impl.ErrRange) || n > 1 && first != impl.ErrNone {
				t.Errorf("PartialClosure(%v) = %v, %d", x, closed, first)
			}
			wide, second := impl.IncludeElement(x)
			if n == 8 && (!isZeroElement(wide) || second != impl.ErrRange) || n < 8 && second != impl.ErrNone {
				t.Errorf("IncludeElement(%v) = %v, %d", x, wide, second)
			}
			if central, code := impl.IsCentralElement(x); !central || code != impl.ErrNone {
				t.Errorf("IsCentralElement(%v) = %v, %d", x, central, code)
			}
		}
	}
}

// TestLimitOfSums adds elements whose sums have 139 to 142 terms, or fewer because terms vanish.
func TestLimitOfSums(t *testing.T) {
	for _, n := range []int64{7, 8} {
		x := firstTerms(97, 5, n, 0, 100)
		for from := 0; from <= 100; from += 20 {
			for terms := 139 - max(100, from); terms <= 140; terms++ {
				y := firstTerms(97, 5, n, from, terms)
				got, code := impl.AddElements(x, y)
				checkElement(t, "AddElements", got, code, modelElement(97, 5, n, modelSumOf(x).plus(modelSumOf(y), 1)))
			}
		}
		full := firstTerms(97, 5, n, 200, 140)
		for k := int64(1); k < 97; k++ {
			other, first := impl.ScaleElement(full, k)
			got, second := impl.AddElements(full, other)
			if len(other.Terms) != 140 || first != impl.ErrNone || second != impl.ErrNone || len(got.Terms) != 140*b2i(k != 96) {
				t.Fatalf("%d terms: %d, %d", len(got.Terms), first, second)
			}
		}
	}
	// The two have 141 diagrams, of which one vanishes.
	x, y := firstTerms(7, 5, 8, 0, 140), firstTerms(7, 5, 8, 140, 1)
	y = modelElement(7, 5, 8, modelSumOf(y).plus(modelSum{modelLists[8][0]: 6}, 1))
	got, code := impl.AddElements(x, y)
	if len(got.Terms) != 140 || code != impl.ErrNone || got.Terms[0].Diagram != modelLists[8][1] {
		t.Errorf("AddElements = %v, %d", got, code)
	}
}

// cupped returns an element of the size 8 with the factor 1 at so many diagrams whose upper points 0
// and 1 are joined, and at so many for which both go through.
func cupped(p int64, c int64, with int, without int) impl.Element {
	s := modelSum{}
	for _, d := range modelLists[8] {
		switch {
		case d.Mate[0] == 1 && with > 0:
			s[d] = 1
			with--
		case d.Mate[0] >= 8 && d.Mate[1] >= 8 && without > 0:
			s[d] = 1
			without--
		}
	}
	return modelElement(p, c, 8, s)
}

// oneAndCup returns the sum of the unit and the generator 0 of the size 8.
func oneAndCup(p int64, c int64) impl.Element {
	one := modelOne(impl.Element{Prime: p, Loop: c, Size: 8})
	return modelElement(p, c, 8, modelSumOf(one).plus(modelSumOf(modelGenerators(one)[0]), 1))
}

// TestLimitOfProducts multiplies by the unit and a generator together: terms with the generator's
// arc stay, and each other one makes one more.
func TestLimitOfProducts(t *testing.T) {
	for _, c := range []int64{0, 3, 96} {
		factor := oneAndCup(97, c)
		counts := map[int]int{}
		for with := 0; with <= 140; with += 14 {
			for without := 0; without <= 71 && with+without <= 140; without++ {
				if without > 2 && without < 68 && with+2*without < 139 {
					continue
				}
				x := cupped(97, c, with, without)
				counts[checkProduct(t, factor, x)]++
				checkProduct(t, flipped(t, x), factor)
			}
		}
		// For the loop 96, which is -1, the terms with the arc vanish, so that few terms are left
		// also where more than 140 diagrams were met.
		if c != 96 && (counts[140] == 0 || counts[141] == 0) || c == 96 && (counts[0] == 0 || counts[28] == 0) {
			t.Errorf("no product for %d is at the limit: %v", c, counts)
		}
	}
}

// TestLimitOfCommutators has products with too many terms in both orders, whose difference is 0,
// products around the limit, and products within the limit, whose difference is beyond it.
func TestLimitOfCommutators(t *testing.T) {
	s := sampler(5)
	many := s.element(97, 3, 8, 40)
	if left, right, _ := checkCommutator(t, many, many); left <= 140 || right <= 140 {
		t.Errorf("the square has %d and %d terms", left, right)
	}
	factor := oneAndCup(97, 3)
	seen := [2][2]int{}
	for _, terms := range []int{12, 20, 50, 75, 100, 139} {
		x := cupped(97, 3, terms, 1)
		for _, pair := range [][2]impl.Element{{factor, x}, {x, factor}} {
			left, right, _ := checkCommutator(t, pair[0], pair[1])
			seen[b2i(left > 140)][b2i(right > 140)]++
		}
	}
	if seen[0][0] == 0 || seen[0][1] == 0 || seen[1][0] == 0 {
		t.Errorf("commutators with and without products beyond the limit: %v", seen)
	}
	cup := modelGenerators(factor)[3]
	if left, right, both := checkCommutator(t, cup, s.element(97, 3, 8, 130)); left > 140 || right > 140 || both <= 140 {
		t.Errorf("%d and %d terms, and %d in the difference", left, right, both)
	}
}

// TestLimitOfOneProduct has one product beyond the limit, whose difference to the other one is
// within it.
func TestLimitOfOneProduct(t *testing.T) {
	found := [2]int{}
	s := sampler(77)
	for range 400 {
		// Without the extra term these commute, with 132 terms in their product.
		x, y := s.sided(true, 12), s.sided(false, 11)
		extra := s.element(97, 3, 8, 1)
		x = modelElement(97, 3, 8, modelSumOf(x).plus(modelSumOf(extra), 1))
		left, right, both := checkCommutator(t, x, y)
		found[0] += b2i(left > 140 && right <= 140 && both <= 140)
		found[1] += b2i(left <= 140 && right > 140 && both <= 140)
	}
	if found[0] == 0 || found[1] == 0 {
		t.Errorf("found %v", found)
	}
}

// sided picks an element of the size 8 with so many diagrams that are, at the right or at the left,
// the unit of the size 4.
func (s *sampler) sided(left bool, terms int64) impl.Element {
	unit := modelDiagram("(((())))")
	sum := modelSum{}
	for int64(len(sum)) < terms {
		d, e := modelLists[4][s.below(14)], unit
		if !left {
			d, e = e, d
		}
		wide, _ := impl.UnionDiagram(d, e)
		sum[wide] = 1 + s.below(96)
	}
	return modelElement(97, 3, 8, sum)
}

// TestLimitOfPowers has a square with too many terms whose third power would have few: for the
// prime 3 that is the sum of the third powers of its two parts, which commute.
func TestLimitOfPowers(t *testing.T) {
	s := modelSum{}
	unit := modelDiagram("(((())))")
	for _, d := range modelLists[4][1:] {
		left, _ := impl.UnionDiagram(d, unit)
		right, _ := impl.UnionDiagram(unit, d)
		s[left], s[right] = 1, 1
	}
	x := modelElement(3, 2, 8, s)
	square := modelMultiply(x, x)
	if cube := modelMultiply(square, x); len(square.Terms) <= 140 || len(cube.Terms) > 140 {
		t.Fatalf("powers have %d and %d terms", len(square.Terms), len(cube.Terms))
	}
	for k, want := range []int64{impl.ErrNone, impl.ErrNone, impl.ErrLimit, impl.ErrLimit, impl.ErrLimit} {
		if got, code := impl.PowerElement(x, int64(k)); code != want || isZeroElement(got) != (code != impl.ErrNone) {
			t.Errorf("PowerElement of %d = %v, %d", k, got, code)
		}
	}
	full := firstTerms(97, 5, 8, 300, 140)
	if got, code := impl.PowerElement(full, 1); !sameElement(got, full) || code != impl.ErrNone {
		t.Errorf("PowerElement = %v, %d", got, code)
	}
}

func TestErrorsOfParsing(t *testing.T) {
	for _, pair := range badModuli() {
		for _, text := range []string{"0", "1*()", "", "x"} {
			for _, n := range []int64{1, 0} {
				if x, code := impl.ParseElement(pair[0], pair[1], n, text); !isZeroElement(x) || code != impl.ErrRange {
					t.Errorf("ParseElement(%v, %d, %q) = %v, %d", pair, n, text, x, code)
				}
			}
		}
	}
	for _, n := range append([]int64{0, 9}, outside...) {
		for _, text := range []string{"0", "1*()", ""} {
			if x, code := impl.ParseElement(5, 2, n, text); !isZeroElement(x) || code != impl.ErrRange {
				t.Errorf("ParseElement(%d, %q) = %v, %d", n, text, x, code)
			}
		}
	}
	bad := []string{
		"", " ", "1", "00", "0*(())", "0*(())+1*()()", "5*(())", "6*(())", "10*(())", "01*(())", "+1*(())", "-1*(())", "1*(())+", "1*(())++1*()()", "1*(()) + 1*()()",
		"1*()()+1*(())", "1*(())+1*(())", "1*()()+1*()()", "(())", "*(())", "1*", "1(())", "1**(())", "1*(()", "1*())(", "1*()", "1*((()))", "1*(())+1*()",
		"1*(())+0", "0+1*(())", "0+0", "1*(())\n", "\n1*(())", "0\n", " 0", "1*(())+1*()()+1*()()", "1 *(())", "1* (())", "٣*(())", "1*[[]]", "1*(())+1*()()x", "1x*(())",
		"1_0*(())", "0x1*(())", "1e0*(())", "99999999999999999999*(())", "-0*(())", "1*(())-1*()()", "1*(())*1", "1*(())+1", "\x00", "1*(())\x00",
		strings.Repeat("+", 100000), strings.Repeat("1*(())+", 1000), strings.Repeat("9", 100000) + "*(())", "1*" + strings.Repeat("(", 100000),
	}
	for _, text := range bad {
		if x, code := impl.ParseElement(5, 2, 2, text); !isZeroElement(x) || code != impl.ErrSyntax {
			t.Errorf("ParseElement(%q) = %v, %d", text, x, code)
		}
	}
	for _, text := range []string{"0", "1*(())", "4*()()", "1*(())+4*()()"} {
		if x, code := impl.ParseElement(5, 2, 2, text); modelElementText(x) != text || code != impl.ErrNone {
			t.Errorf("ParseElement(%q) = %v, %d", text, x, code)
		}
	}
	if x, code := impl.ParseElement(5, 2, 3, "1*(())"); !isZeroElement(x) || code != impl.ErrSyntax {
		t.Errorf("ParseElement of another size = %v, %d", x, code)
	}
}

// TestTextsOfManyTerms parses texts of 139 to 142 terms; more than 140 are no element's.
func TestTextsOfManyTerms(t *testing.T) {
	for _, terms := range []int{1, 139, 140, 141, 142, 1000} {
		x := firstTerms(97, 5, 8, 100, terms)
		got, code := impl.ParseElement(97, 5, 8, modelElementText(x))
		if terms > 140 {
			if !isZeroElement(got) || code != impl.ErrSyntax {
				t.Errorf("%d terms: %v, %d", terms, got, code)
			}
			continue
		}
		checkElement(t, "ParseElement", got, code, x)
	}
}

// TestTextsOfElementsThatAreNone changes all texts of the size 2 for the prime 3 at one place.
func TestTextsOfElementsThatAreNone(t *testing.T) {
	valid := map[string]impl.Element{}
	for i := range int64(9) {
		x := numbered(3, 1, 2, i)
		valid[modelElementText(x)] = x
	}
	try := func(text string) {
		x, code := impl.ParseElement(3, 1, 2, text)
		want, ok := valid[text]
		if ok && (code != impl.ErrNone || !sameElement(x, want)) || !ok && (code != impl.ErrSyntax || !isZeroElement(x)) {
			t.Fatalf("ParseElement(%q) = %v, %d", text, x, code)
		}
	}
	for text := range valid {
		try(text)
		for i := range len(text) + 1 {
			for _, letter := range "0123()*+- \n[" {
				try(text[:i] + string(letter) + text[i:])
				if i < len(text) {
					try(text[:i] + string(letter) + text[i+1:])
				}
			}
			if i < len(text) {
				try(text[:i] + text[i+1:])
			}
		}
	}
}

// spared returns a copy of x whose terms have spare capacity, with a mark in all of it.
func spared(x impl.Element) impl.Element {
	terms := make([]impl.Term, len(x.Terms), len(x.Terms)+50)
	copy(terms, x.Terms)
	for i := len(terms); i < cap(terms); i++ {
		terms[:cap(terms)][i].Factor = 77
	}
	x.Terms = terms
	return x
}

// isSpared reports whether y, which spared returned for x, is as it was.
func isSpared(x impl.Element, y impl.Element) bool {
	for i := len(y.Terms); i < cap(y.Terms); i++ {
		if y.Terms[:cap(y.Terms)][i] != (impl.Term{Factor: 77}) {
			return false
		}
	}
	return sameElement(x, y)
}

// scribble overwrites all the memory of the terms of an element.
func scribble(x impl.Element) {
	terms := x.Terms[:cap(x.Terms)]
	for i := range terms {
		terms[i] = impl.Term{Factor: -5}
	}
}

// TestMemoryOfElements checks that arguments stay as they are, and that results share nothing with
// them, nor with later results.
func TestMemoryOfElements(t *testing.T) {
	list := []impl.Element{firstTerms(5, 2, 3, 1, 4), firstTerms(97, 5, 4, 0, 14), modelOne(impl.Element{Prime: 5, Loop: 2, Size: 3}), {Prime: 5, Loop: 2, Size: 3}, firstTerms(97, 5, 8, 100, 140)}
	for _, x := range list {
		for name, f := range one02 {
			y := spared(x)
			first, _ := f(y)
			scribble(first)
			if !isSpared(x, y) {
				t.Fatalf("%s changes its argument %v", name, x)
			}
			second, _ := f(y)
			third, _ := f(x)
			if scribble(y); !sameElement(second, third) {
				t.Fatalf("%s keeps memory", name)
			}
		}
		for name, f := range two02 {
			y, z := spared(x), spared(x)
			for _, pair := range [][2]impl.Element{{y, z}, {y, y}} {
				first, _ := f(pair[0], pair[1])
				scribble(first)
				if !isSpared(x, y) || !isSpared(x, z) {
					t.Fatalf("%s changes its arguments %v", name, x)
				}
			}
			second, _ := f(y, z)
			third, _ := f(x, x)
			scribble(y)
			if scribble(z); !sameElement(second, third) {
				t.Fatalf("%s keeps memory", name)
			}
		}
		y := spared(x)
		impl.IsElement(y)
		impl.TraceOf(y)
		impl.IsCentralElement(y)
		impl.ElementText(y)
		if !isSpared(x, y) {
			t.Fatalf("IsElement, TraceOf, IsCentralElement or ElementText changes %v", x)
		}
	}
}

// TestMemoryOfSums adds no terms to some, where it would be easy to return an argument.
func TestMemoryOfSums(t *testing.T) {
	x, zero := firstTerms(5, 2, 3, 0, 5), impl.Element{Prime: 5, Loop: 2, Size: 3}
	for _, pair := range [][2]impl.Element{{spared(x), spared(zero)}, {spared(zero), spared(x)}} {
		for name, f := range two02 {
			got, code := f(pair[0], pair[1])
			if scribble(got); code != impl.ErrNone || !sameElement(pair[0], x) && !sameElement(pair[1], x) {
				t.Errorf("%s returns an argument", name)
			}
		}
	}
}
