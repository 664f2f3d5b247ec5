package tests

import (
	"testing"

	"loop.example/g01251/impl"
)

// Tests of chapter 2: what the functions return for valid arguments.

func TestLimitsOfElements(t *testing.T) {
	if impl.MaxTerms != 140 || impl.MaxPrime != 97 {
		t.Errorf("limits are %d and %d", impl.MaxTerms, impl.MaxPrime)
	}
}

func TestIsElement(t *testing.T) {
	isPrime := map[int64]bool{}
	for _, p := range primes {
		isPrime[p] = true
	}
	for p := int64(-10); p <= 300; p++ {
		for _, c := range []int64{-1, 0, 1, p - 1, p, p + 1} {
			want := isPrime[p] && c >= 0 && c < p
			if x := (impl.Element{Prime: p, Loop: c, Size: 3}); impl.IsElement(x) != want {
				t.Errorf("IsElement(%v) = %v", x, !want)
			}
		}
	}
	for _, x := range someElements() {
		if !impl.IsElement(x) {
			t.Errorf("IsElement(%v) = false", x)
		}
		if x.Terms = []impl.Term{}; !impl.IsElement(x) {
			t.Errorf("IsElement(%v) = false", x)
		}
	}
	for n := int64(-1); n <= 10; n++ {
		if x := (impl.Element{Prime: 2, Loop: 1, Size: n}); impl.IsElement(x) != (n >= 1 && n <= 8) {
			t.Errorf("IsElement(%v) is wrong", x)
		}
	}
}

// TestIsElementOfTerms tries all pairs of terms of the size 2, and of the size 3.
func TestIsElementOfTerms(t *testing.T) {
	list := append([]impl.Diagram{{}, {Size: 2, Mate: [16]byte{3, 2, 1, 0}}}, modelLists[2]...)
	list = append(list, modelLists[3]...)
	for _, d := range list {
		for _, e := range list {
			for factor := int64(-1); factor <= 4; factor++ {
				x := impl.Element{Prime: 3, Loop: 2, Size: 3, Terms: []impl.Term{{Diagram: d, Factor: 2}, {Diagram: e, Factor: factor}}}
				want := d.Size == 3 && e.Size == 3 && modelText(d) < modelText(e) && factor >= 1 && factor <= 2
				if impl.IsElement(x) != want {
					t.Fatalf("IsElement(%v) = %v", x, !want)
				}
				x.Terms[0], x.Terms[1] = x.Terms[1], x.Terms[0]
				want = d.Size == 3 && e.Size == 3 && modelText(e) < modelText(d) && factor >= 1 && factor <= 2
				if impl.IsElement(x) != want {
					t.Fatalf("IsElement(%v) = %v", x, !want)
				}
			}
		}
	}
}

func TestElementOf(t *testing.T) {
	multiples := []int64{-1000000, -999999, -98, -97, -96, -2, -1, 0, 1, 2, 3, 96, 97, 98, 194, 999999, 1000000}
	for _, p := range primes {
		for _, c := range []int64{0, 1, p - 1} {
			for _, d := range []impl.Diagram{modelLists[1][0], modelLists[2][1], modelLists[5][17], modelLists[8][1429]} {
				for _, k := range multiples {
					x, code := impl.ElementOf(p, c, d, k)
					checkElement(t, "ElementOf", x, code, modelElement(p, c, d.Size, modelSum{d: k}))
				}
			}
		}
	}
	d := modelDiagram("()()")
	x, code := impl.ElementOf(7, 3, d, -1000000) // -1000000 = -142858 * 7 + 6
	if code != impl.ErrNone || len(x.Terms) != 1 || x.Terms[0] != (impl.Term{Diagram: d, Factor: 6}) || x.Prime != 7 || x.Loop != 3 || x.Size != 2 {
		t.Errorf("ElementOf = %v, %d", x, code)
	}
}

func TestSumsAndMultiples(t *testing.T) {
	for _, kind := range someKinds() {
		list := elementsOfKind(kind)
		for _, x := range list {
			for _, y := range list {
				got, code := impl.AddElements(x, y)
				checkElement(t, "AddElements", got, code, modelElement(kind[0], kind[1], kind[2], modelSumOf(x).plus(modelSumOf(y), 1)))
			}
			for _, k := range []int64{-1000000, -97, -1, 0, 1, 2, 5, 97, 100, 1000000} {
				got, code := impl.ScaleElement(x, k)
				checkElement(t, "ScaleElement", got, code, modelElement(kind[0], kind[1], kind[2], modelSum{}.plus(modelSumOf(x), k)))
			}
			less, _ := impl.ScaleElement(x, -1)
			if got, code := impl.AddElements(x, less); len(got.Terms) != 0 || code != impl.ErrNone {
				t.Fatalf("%v less itself is %v, %d", x, got, code)
			}
		}
	}
}

// checkProduct compares the product of x and y with the model's, and returns how many terms that has.
func checkProduct(t *testing.T, x impl.Element, y impl.Element) int {
	t.Helper()
	want := modelMultiply(x, y)
	got, code := impl.MultiplyElements(x, y)
	checkElement(t, "MultiplyElements", got, code, want)
	return len(want.Terms)
}

// forPairs calls use with all pairs of elements that are alike and whose product is found soon.
func forPairs(use func(x impl.Element, y impl.Element)) {
	for _, kind := range someKinds() {
		list := elementsOfKind(kind)
		for _, x := range list {
			for _, y := range list {
				if len(x.Terms)*len(y.Terms) <= 100 {
					use(x, y)
				}
			}
		}
	}
}

func TestProductsOfElements(t *testing.T) {
	forPairs(func(x impl.Element, y impl.Element) {
		checkProduct(t, x, y)
	})
	for n := int64(1); n <= 5; n++ {
		x := firstTerms(97, 5, n, 0, len(modelLists[n]))
		checkProduct(t, x, x)
	}
}

// TestLoopsOfProducts multiplies the diagrams with one half only, whose products have all loops.
func TestLoopsOfProducts(t *testing.T) {
	for _, c := range []int64{0, 1, 3, 6} {
		for loops, text := range []string{"(())", "()()", "()()()()", "()()()()()()", "()()()()()()()()"} {
			x, _ := impl.ElementOf(7, c, modelDiagram(text), 2)
			factor := int64(4)
			for range loops {
				factor *= c
			}
			got, code := impl.MultiplyElements(x, x)
			want, _ := impl.ElementOf(7, c, modelDiagram(text), factor)
			checkElement(t, "MultiplyElements", got, code, want)
		}
	}
}

// times returns the product of x and y, which has to have few terms.
func times(t *testing.T, x impl.Element, y impl.Element) impl.Element {
	t.Helper()
	got, code := impl.MultiplyElements(x, y)
	if code != impl.ErrNone {
		t.Fatalf("MultiplyElements(%v, %v): code %d", x, y, code)
	}
	return got
}

// plus returns the sum of x and y, which has to have few terms.
func plus(t *testing.T, x impl.Element, y impl.Element) impl.Element {
	t.Helper()
	got, code := impl.AddElements(x, y)
	if code != impl.ErrNone {
		t.Fatalf("AddElements(%v, %v): code %d", x, y, code)
	}
	return got
}

func flipped(t *testing.T, x impl.Element) impl.Element {
	t.Helper()
	got, code := impl.FlipElement(x)
	if code != impl.ErrNone {
		t.Fatalf("FlipElement(%v): code %d", x, code)
	}
	return got
}

func traced(t *testing.T, x impl.Element) int64 {
	t.Helper()
	got, code := impl.TraceOf(x)
	if code != impl.ErrNone {
		t.Fatalf("TraceOf(%v): code %d", x, code)
	}
	return got
}

// TestRulesOfElements checks the rules of the algebra for elements picked with up to six terms.
func TestRulesOfElements(t *testing.T) {
	for _, kind := range someKinds() {
		p, c, n := kind[0], kind[1], kind[2]
		s := sampler(p + 100*c + 10000*n)
		for range 6 {
			x, y, z := s.element(p, c, n, 4), s.element(p, c, n, 4), s.element(p, c, n, 6)
			xy, yz := times(t, x, y), times(t, y, z)
			if !sameElement(times(t, xy, z), times(t, x, yz)) {
				t.Fatalf("products of %v, %v, %v are not associative", x, y, z)
			}
			if !sameElement(times(t, plus(t, x, y), z), plus(t, times(t, x, z), yz)) {
				t.Fatalf("products of %v, %v, %v do not go along with sums at the left", x, y, z)
			}
			if !sameElement(times(t, z, plus(t, x, y)), plus(t, times(t, z, x), times(t, z, y))) {
				t.Fatalf("products of %v, %v, %v do not go along with sums at the right", x, y, z)
			}
			if !sameElement(flipped(t, xy), times(t, flipped(t, y), flipped(t, x))) {
				t.Fatalf("flips do not turn the product of %v and %v round", x, y)
			}
			if traced(t, xy) != traced(t, times(t, y, x)) || traced(t, flipped(t, x)) != traced(t, x) {
				t.Fatalf("traces of %v and %v depend on the order", x, y)
			}
			one := modelOne(x)
			if !sameElement(times(t, one, x), x) || !sameElement(times(t, x, one), x) {
				t.Fatalf("products of the unit with %v are wrong", x)
			}
		}
	}
}

func TestFlipsAndTraces(t *testing.T) {
	for _, x := range someElements() {
		s := modelSum{}
		for _, term := range x.Terms {
			s[modelFlip(term.Diagram)] += term.Factor
		}
		got, code := impl.FlipElement(x)
		checkElement(t, "FlipElement", got, code, modelElement(x.Prime, x.Loop, x.Size, s))
		if !sameElement(flipped(t, got), x) {
			t.Fatalf("the flip of %v does not lead back", x)
		}
		if trace, code := impl.TraceOf(x); trace != modelTrace(x) || code != impl.ErrNone {
			t.Fatalf("TraceOf(%v) = %d, %d", x, trace, code)
		}
	}
}

func TestTracesByHand(t *testing.T) {
	cases := []struct {
		p, c, n int64
		text    string
		trace   int64
	}{
		{5, 2, 2, "1*(())", 4}, {5, 2, 2, "0", 0}, {5, 2, 2, "1*(())+1*()()", 1}, {7, 3, 3, "1*((()))", 6}, {7, 3, 3, "2*((()))+3*()(())", 0},
		{7, 0, 3, "2*((()))+3*()(())", 0}, {97, 96, 1, "5*()", 92}, {2, 1, 2, "1*(())+1*()()", 0}, {2, 0, 1, "1*()", 0}, {97, 2, 8, "1*(((((((())))))))", 62},
	}
	for _, c := range cases {
		x, _ := impl.ParseElement(c.p, c.c, c.n, c.text)
		if trace, code := impl.TraceOf(x); trace != c.trace || code != impl.ErrNone {
			t.Errorf("TraceOf(%q) = %d, %d", c.text, trace, code)
		}
	}
}

// checkPowers compares the powers 0 to k of x with the model's, one after the other.
func checkPowers(t *testing.T, x impl.Element, last int64) {
	t.Helper()
	want, limit := modelOne(x), false
	for k := int64(0); k <= last; k++ {
		got, code := impl.PowerElement(x, k)
		if limit {
			if !isZeroElement(got) || code != impl.ErrLimit {
				t.Fatalf("PowerElement(%v, %d) = %v, %d", x, k, got, code)
			}
			continue
		}
		checkElement(t, "PowerElement", got, code, want)
		if limit = len(want.Terms) > impl.MaxTerms; !limit {
			want = modelMultiply(want, x)
			limit = len(want.Terms) > impl.MaxTerms
		}
	}
}

func TestPowers(t *testing.T) {
	for _, kind := range someKinds() {
		if kind[2] > 5 && kind[0] != 3 {
			continue
		}
		for i, x := range elementsOfKind(kind) {
			last := int64(3)
			if i == 3 || kind[2] <= 3 {
				last = 20
			}
			checkPowers(t, x, last)
		}
	}
	x, _ := impl.ParseElement(5, 2, 2, "1*()()")
	if got, code := impl.PowerElement(x, 20); len(got.Terms) != 1 || got.Terms[0].Factor != 3 || code != impl.ErrNone { // 2 to the power 19
		t.Errorf("PowerElement = %v, %d", got, code)
	}
}

// checkCommutator compares the commutator of x and y with the model's, and returns how many terms
// both products and their difference have.
func checkCommutator(t *testing.T, x impl.Element, y impl.Element) (int, int, int) {
	t.Helper()
	left, right := modelMultiply(x, y), modelMultiply(y, x)
	want := modelElement(x.Prime, x.Loop, x.Size, modelSumOf(left).plus(modelSumOf(right), -1))
	counts := [3]int{len(left.Terms), len(right.Terms), len(want.Terms)}
	got, code := impl.CommutatorElement(x, y)
	if max(counts[0], counts[1], counts[2]) <= impl.MaxTerms {
		checkElement(t, "CommutatorElement", got, code, want)
	} else if !isZeroElement(got) || code != impl.ErrLimit {
		t.Fatalf("CommutatorElement of %v terms = %v, %d", counts, got, code)
	}
	return counts[0], counts[1], counts[2]
}

func TestCommutators(t *testing.T) {
	forPairs(func(x impl.Element, y impl.Element) {
		checkCommutator(t, x, y)
	})
	x, _ := impl.ParseElement(5, 2, 3, "1*()(())")
	y, _ := impl.ParseElement(5, 2, 3, "1*(())()")
	got, code := impl.CommutatorElement(x, y)
	if text, _ := impl.ElementText(got); text != "3*(()())+2*()()()" || code != impl.ErrNone {
		t.Errorf("CommutatorElement = %q, %d", text, code)
	}
}

// checkInverse checks that the products of x and its inverse are the unit.
func checkInverse(t *testing.T, x impl.Element, inverse impl.Element) {
	t.Helper()
	one := modelOne(x)
	if !impl.IsElement(inverse) || !sameElement(modelMultiply(x, inverse), one) || !sameElement(modelMultiply(inverse, x), one) {
		t.Fatalf("InverseElement(%v) = %v", x, inverse)
	}
}

// numbered returns the element whose factors are the digits of a number to the base p.
func numbered(p int64, c int64, n int64, number int64) impl.Element {
	s := modelSum{}
	for _, d := range modelLists[n] {
		s[d] = number % p
		number /= p
	}
	return modelElement(p, c, n, s)
}

// TestInversesOfAll looks, for all elements of some kinds, through all others for an inverse.
func TestInversesOfAll(t *testing.T) {
	for _, kind := range [][4]int64{{2, 0, 1, 2}, {2, 1, 1, 2}, {97, 5, 1, 97}, {2, 0, 2, 4}, {2, 1, 2, 4}, {3, 0, 2, 9}, {3, 1, 2, 9}, {3, 2, 2, 9}, {2, 0, 3, 32}, {2, 1, 3, 32}} {
		for i := range kind[3] {
			x := numbered(kind[0], kind[1], kind[2], i)
			one, found := modelOne(x), false
			for k := range kind[3] {
				found = found || sameElement(modelMultiply(x, numbered(kind[0], kind[1], kind[2], k)), one)
			}
			inverse, code := impl.InverseElement(x)
			if !found && (!isZeroElement(inverse) || code != impl.ErrNotFound) || found && code != impl.ErrNone {
				t.Fatalf("InverseElement(%v) = %v, %d", x, inverse, code)
			}
			if found {
				checkInverse(t, x, inverse)
			}
		}
	}
}

// hasKernel reports whether an element other than 0 of the prime 2 and the size 4 has the product
// 0 with x; products with x are numbers whose bits are the factors.
func hasKernel(x impl.Element, products [][]int) bool {
	basis := map[int]int{}
	for k := range products {
		row := 0
		for _, term := range x.Terms {
			if product := products[slot(term.Diagram)][k]; product >= 0 {
				row ^= 1 << product
			}
		}
		for bit := 13; bit >= 0 && row != 0; bit-- {
			if row>>bit&1 == 1 && basis[bit] != 0 {
				row ^= basis[bit]
			} else if row>>bit&1 == 1 {
				basis[bit] = row
				break
			}
		}
	}
	return len(basis) < len(products)
}

// slot returns the number of a diagram of the size 4.
func slot(d impl.Diagram) int {
	for i, e := range modelLists[4] {
		if e == d {
			return i
		}
	}
	return -1
}

// TestInversesOfSizeFour checks elements of the prime 2: those without an inverse have a product 0
// with another element than 0.
func TestInversesOfSizeFour(t *testing.T) {
	for c := range int64(2) {
		products := [][]int{}
		for _, d := range modelLists[4] {
			row := []int{}
			for _, e := range modelLists[4] {
				product, loops := modelProduct(d, e)
				if loops > 0 && c == 0 {
					row = append(row, -1)
				} else {
					row = append(row, slot(product))
				}
			}
			products = append(products, row)
		}
		found := 0
		for i := int64(0); i < 1<<14; i += 7 {
			x := numbered(2, c, 4, i)
			inverse, code := impl.InverseElement(x)
			if kernel := hasKernel(x, products); kernel && (!isZeroElement(inverse) || code != impl.ErrNotFound) || !kernel && code != impl.ErrNone {
				t.Fatalf("InverseElement(%v) = %v, %d", x, inverse, code)
			}
			if code == impl.ErrNone {
				found++
				if i%5 == 0 {
					checkInverse(t, x, inverse)
				}
			}
		}
		if found < 50 {
			t.Errorf("only %d elements have an inverse", found)
		}
	}
}

func TestInverses(t *testing.T) {
	found := 0
	for _, p := range []int64{3, 5, 7, 89, 97} {
		for _, c := range []int64{0, 2, p - 1} {
			for n := int64(1); n <= 4; n++ {
				s := sampler(p*100 + c*10 + n)
				for _, terms := range []int64{1, 2, 5, 30} {
					x := s.element(p, c, n, terms)
					if inverse, code := impl.InverseElement(x); code == impl.ErrNone {
						found++
						checkInverse(t, x, inverse)
					} else if code != impl.ErrNotFound || !isZeroElement(inverse) {
						t.Fatalf("InverseElement(%v) = %v, %d", x, inverse, code)
					}
				}
			}
		}
	}
	if found < 100 {
		t.Errorf("only %d elements have an inverse", found)
	}
	cases := []struct {
		p, c, n       int64
		text, inverse string
	}{
		{5, 2, 2, "1*(())+1*()()", "1*(())+3*()()"}, {97, 2, 1, "2*()", "49*()"}, {97, 0, 1, "96*()", "96*()"}, {2, 0, 2, "1*(())+1*()()", "1*(())+1*()()"},
		{97, 3, 4, "1*(((())))", "1*(((())))"}, {7, 0, 3, "1*((()))+1*()(())", "1*((()))+3*()(())"}, {7, 0, 3, "1*((()))+1*()()()", "1*((()))+6*()()()"},
	}
	for _, c := range cases {
		x, _ := impl.ParseElement(c.p, c.c, c.n, c.text)
		inverse, code := impl.InverseElement(x)
		if text, _ := impl.ElementText(inverse); text != c.inverse || code != impl.ErrNone {
			t.Errorf("InverseElement(%q) = %q, %d", c.text, text, code)
		}
	}
}

func TestPartialClosures(t *testing.T) {
	for _, x := range someElements() {
		if x.Size == 1 {
			continue
		}
		s := modelSum{}
		for _, term := range x.Terms {
			d, loops := modelCloseLast(term.Diagram)
			s[d] += term.Factor * modelLoops(x, loops)
		}
		got, code := impl.PartialClosure(x)
		checkElement(t, "PartialClosure", got, code, modelElement(x.Prime, x.Loop, x.Size-1, s))
		if traced(t, got) != traced(t, x) {
			t.Fatalf("the partial closure of %v does not keep the trace", x)
		}
	}
	// All of one size at once: many diagrams become the same one.
	for n := int64(2); n <= 8; n++ {
		for from := 0; from < len(modelLists[n]); from += 140 {
			x := firstTerms(13, 5, n, from, min(140, len(modelLists[n])-from))
			got, code := impl.PartialClosure(x)
			if code != impl.ErrNone || !impl.IsElement(got) || traced(t, got) != modelTrace(x) {
				t.Fatalf("PartialClosure of %d terms = %v, %d", len(x.Terms), got, code)
			}
		}
	}
}

func TestPartialClosuresByHand(t *testing.T) {
	for text, want := range map[string]string{
		"1*(())": "2*()", "1*()()": "1*()", "1*(())+1*()()": "3*()", "1*(())+3*()()": "0", "0": "0",
	} {
		x, _ := impl.ParseElement(5, 2, 2, text)
		got, code := impl.PartialClosure(x)
		if result, _ := impl.ElementText(got); result != want || code != impl.ErrNone || got.Size != 1 {
			t.Errorf("PartialClosure(%q) = %q, %d", text, result, code)
		}
	}
	for text, want := range map[string]string{
		"1*((()))": "0", "1*(()())": "1*(())", "1*(())()": "1*()()", "1*()(())": "1*()()", "1*()()()": "0", "2*(())()+3*()(())": "0",
	} {
		x, _ := impl.ParseElement(5, 0, 3, text)
		got, code := impl.PartialClosure(x)
		if result, _ := impl.ElementText(got); result != want || code != impl.ErrNone || got.Size != 2 {
			t.Errorf("PartialClosure(%q) = %q, %d", text, result, code)
		}
	}
}

func TestInclusions(t *testing.T) {
	for _, x := range someElements() {
		if x.Size == 8 {
			continue
		}
		s := modelSum{}
		for _, term := range x.Terms {
			s[modelInclude(term.Diagram)] += term.Factor
		}
		got, code := impl.IncludeElement(x)
		checkElement(t, "IncludeElement", got, code, modelElement(x.Prime, x.Loop, x.Size+1, s))
		back, _ := impl.PartialClosure(got)
		if scaled, _ := impl.ScaleElement(x, x.Loop); !sameElement(back, scaled) {
			t.Fatalf("the partial closure of the inclusion of %v is %v", x, back)
		}
	}
}

// modelIsCentral compares the products of x with all generators.
func modelIsCentral(x impl.Element) bool {
	for _, g := range modelGenerators(x) {
		if !sameElement(modelMultiply(x, g), modelMultiply(g, x)) {
			return false
		}
	}
	return true
}

func TestCentralElements(t *testing.T) {
	for _, x := range someElements() {
		if central, code := impl.IsCentralElement(x); central != modelIsCentral(x) || code != impl.ErrNone {
			t.Fatalf("IsCentralElement(%v) = %v, %d", x, central, code)
		}
	}
	for _, kind := range [][4]int64{{2, 0, 3, 32}, {2, 1, 3, 32}, {3, 2, 3, 243}, {2, 0, 4, 1 << 14}, {2, 1, 4, 1 << 14}} {
		count, step := 0, int64(1)
		if kind[3] > 1000 {
			step = 5
		}
		for i := int64(0); i < kind[3]; i += step {
			x := numbered(kind[0], kind[1], kind[2], i)
			central, code := impl.IsCentralElement(x)
			if central != modelIsCentral(x) || code != impl.ErrNone {
				t.Fatalf("IsCentralElement(%v) = %v, %d", x, central, code)
			}
			count += b2i(central)
		}
		if count < 2 || int64(count) == kind[3] {
			t.Errorf("%v has %d central elements", kind, count)
		}
	}
	// The last one is the projection of the size 3 for 7 and 3, which generators make 0.
	for text, want := range map[string]bool{
		"0": true, "5*((()))": true, "1*()(())": false, "1*(()())": false, "1*((()))+4*(()())": false, "1*((()))+4*(()())+1*(())()+1*()(())+4*()()()": true,
	} {
		x, _ := impl.ParseElement(7, 3, 3, text)
		if central, code := impl.IsCentralElement(x); central != want || code != impl.ErrNone {
			t.Errorf("IsCentralElement(%q) = %v, %d", text, central, code)
		}
	}
	// The generators 2 and 0 commute with each other, but not with the generator 1.
	for text, want := range map[string]bool{"1*((()()))": false, "1*()(())()": false, "1*(((())))": true} {
		x, _ := impl.ParseElement(7, 3, 4, text)
		if central, code := impl.IsCentralElement(x); central != want || code != impl.ErrNone {
			t.Errorf("IsCentralElement(%q) = %v, %d", text, central, code)
		}
	}
}

func TestTextsOfElements(t *testing.T) {
	for _, x := range someElements() {
		text, code := impl.ElementText(x)
		if text != modelElementText(x) || code != impl.ErrNone {
			t.Fatalf("ElementText(%v) = %q, %d", x, text, code)
		}
		back, code := impl.ParseElement(x.Prime, x.Loop, x.Size, text)
		checkElement(t, "ParseElement", back, code, x)
	}
	d, e := modelDiagram("(())"), modelDiagram("()()")
	x := impl.Element{Prime: 97, Loop: 0, Size: 2, Terms: []impl.Term{{Diagram: d, Factor: 96}, {Diagram: e, Factor: 10}}}
	if text, code := impl.ElementText(x); text != "96*(())+10*()()" || code != impl.ErrNone {
		t.Errorf("ElementText = %q, %d", text, code)
	}
	if text, code := impl.ElementText(impl.Element{Prime: 2, Loop: 1, Size: 8, Terms: []impl.Term{}}); text != "0" || code != impl.ErrNone {
		t.Errorf("ElementText = %q, %d", text, code)
	}
}
