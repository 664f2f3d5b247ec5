package tests

import (
	"slices"
	"testing"

	"loop.example/g01251/impl"
)

// Tests of chapter 5: results for valid arguments.

func TestLimitsOfProjections(t *testing.T) {
	if impl.MaxProjection != 5 || impl.MaxIndex != 1000 {
		t.Errorf("MaxProjection, MaxIndex = %d, %d", impl.MaxProjection, impl.MaxIndex)
	}
}

// chebyshev returns a Chebyshev number.
func chebyshev(t *testing.T, p int64, c int64, k int64) int64 {
	t.Helper()
	number, code := impl.ChebyshevNumber(p, c, k)
	if code != impl.ErrNone {
		t.Fatalf("ChebyshevNumber(%d, %d, %d): code %d", p, c, k, code)
	}
	return number
}

func TestChebyshevNumbers(t *testing.T) {
	forModuli(func(p int64, c int64) {
		for k := int64(0); k <= 1000; k++ {
			if k > 110 && k%89 != 0 && k < 995 {
				continue
			}
			if got, want := chebyshev(t, p, c, k), modelChebyshev(p, c, k); got != want {
				t.Fatalf("ChebyshevNumber(%d, %d, %d) = %d, not %d", p, c, k, got, want)
			}
		}
	})
}

func TestChebyshevNumbersByHand(t *testing.T) {
	for _, p := range primes {
		for k := range int64(1001) {
			if got := chebyshev(t, p, 0, k); got != []int64{1, 0, p - 1, 0}[k%4] {
				t.Errorf("ChebyshevNumber(%d, 0, %d) = %d", p, k, got)
			}
			if got := chebyshev(t, p, 1, k); got != []int64{1, 1, 0, p - 1, p - 1, 0}[k%6] {
				t.Errorf("ChebyshevNumber(%d, 1, %d) = %d", p, k, got)
			}
			if got := chebyshev(t, p, 2%p, k); got != (k+1)%p {
				t.Errorf("ChebyshevNumber(%d, %d, %d) = %d", p, 2%p, k, got)
			}
		}
	}
	for k, want := range []int64{1, 3, 8, 21, 55, 47, 86, 17, 62} {
		if got := chebyshev(t, 97, 3, int64(k)); got != want {
			t.Errorf("ChebyshevNumber(97, 3, %d) = %d", k, got)
		}
	}
}

// TestRecursionOfChebyshevNumbers checks what the chapter defines them by, for all numbers.
func TestRecursionOfChebyshevNumbers(t *testing.T) {
	for _, pair := range [][2]int64{{2, 0}, {2, 1}, {3, 2}, {5, 3}, {7, 6}, {89, 44}, {97, 0}, {97, 5}, {97, 96}} {
		p, c := pair[0], pair[1]
		if chebyshev(t, p, c, 0) != 1 || chebyshev(t, p, c, 1) != c {
			t.Errorf("the first Chebyshev numbers of %v are others", pair)
		}
		for k := int64(1); k < 1000; k++ {
			want := ((c*chebyshev(t, p, c, k)-chebyshev(t, p, c, k-1))%p + p) % p
			if got := chebyshev(t, p, c, k+1); got != want {
				t.Errorf("ChebyshevNumber(%d, %d, %d) = %d, not %d", p, c, k+1, got, want)
			}
		}
	}
}

func TestFirstZeros(t *testing.T) {
	greatest := int64(0)
	forModuli(func(p int64, c int64) {
		zero := firstZeroOf(t, p, c)
		if want := modelZero(p, c); zero != want {
			t.Errorf("FirstZero(%d, %d) = %d, not %d", p, c, zero, want)
		}
		for k := int64(0); k < zero; k++ {
			if chebyshev(t, p, c, k) == 0 {
				t.Errorf("FirstZero(%d, %d) = %d, but %d is one", p, c, zero, k)
			}
		}
		if chebyshev(t, p, c, zero) != 0 {
			t.Errorf("FirstZero(%d, %d) = %d is none", p, c, zero)
		}
		greatest = max(greatest, zero)
	})
	if greatest != 96 {
		t.Errorf("the greatest first zero is %d", greatest)
	}
}

func TestFirstZerosByHand(t *testing.T) {
	for _, p := range primes {
		wants := [][2]int64{{0, 1}}
		if p > 2 {
			wants = append(wants, [2]int64{1, 2}, [2]int64{p - 1, 2}, [2]int64{2, p - 1}, [2]int64{p - 2, p - 1})
		}
		for _, want := range wants {
			if zero := firstZeroOf(t, p, want[0]); zero != want[1] {
				t.Errorf("FirstZero(%d, %d) = %d, not %d", p, want[0], zero, want[1])
			}
		}
	}
	for _, want := range [][3]int64{{2, 1, 2}, {7, 3, 3}, {7, 4, 3}, {11, 4, 4}, {11, 5, 5}, {5, 2, 4}, {97, 2, 96}} {
		if zero := firstZeroOf(t, want[0], want[1]); zero != want[2] {
			t.Errorf("FirstZero(%d, %d) = %d, not %d", want[0], want[1], zero, want[2])
		}
	}
}

func TestExistenceOfProjections(t *testing.T) {
	forModuli(func(p int64, c int64) {
		want := true
		for n := int64(1); n <= 8; n++ {
			want = want && (n == 1 || modelChebyshev(p, c, n-1) != 0)
			if got, code := impl.ProjectionExists(p, c, n); got != want || code != impl.ErrNone {
				t.Errorf("ProjectionExists(%d, %d, %d) = %v, %d", p, c, n, got, code)
			}
		}
	})
}

// TestExistenceAtZeros checks that the size of the first zero is the greatest one.
func TestExistenceAtZeros(t *testing.T) {
	seen := map[int64]bool{}
	forModuli(func(p int64, c int64) {
		zero := firstZeroOf(t, p, c)
		seen[min(zero, 9)] = true
		for n := int64(1); n <= 8; n++ {
			if got, _ := impl.ProjectionExists(p, c, n); got != (n <= zero) {
				t.Errorf("ProjectionExists(%d, %d, %d) = %v with the first zero %d", p, c, n, got, zero)
			}
			x, code := impl.ProjectionOf(p, c, n)
			trace, traceCode := impl.TraceOfProjection(p, c, n)
			want := []int64{impl.ErrNone, impl.ErrState, impl.ErrRange}[max(b2i(n > zero), 2*b2i(n > 5))]
			if code != want || traceCode != want || want != impl.ErrNone && (!isZeroElement(x) || trace != 0) {
				t.Errorf("ProjectionOf, TraceOfProjection(%d, %d, %d): %v, %d, %d, %d", p, c, n, x, code, trace, traceCode)
			}
		}
	})
	for zero := int64(1); zero <= 9; zero++ {
		if !seen[zero] {
			t.Errorf("no loop value has the first zero %d", zero)
		}
	}
}

// forProjections calls use with all sizes of projections that exist, of all loop values up to size 3,
// and of many for the greater sizes.
func forProjections(use func(p int64, c int64, n int64)) {
	forModuli(func(p int64, c int64) {
		for n := int64(1); n <= min(3, modelZero(p, c)); n++ {
			use(p, c, n)
		}
	})
	forLoops(func(p int64, c int64) {
		for n := int64(4); n <= min(5, modelZero(p, c)); n++ {
			use(p, c, n)
		}
	})
}

// TestProjections checks promise 5: the elements are killed by generators. There is only one such
// element with the coefficient 1 at the unit.
func TestProjections(t *testing.T) {
	forProjections(func(p int64, c int64, n int64) {
		x := projected(t, p, c, n)
		if x.Prime != p || x.Loop != c || x.Size != n || factorOf(x, modelUnit(n)) != 1 || !isKilled(x) {
			t.Fatalf("ProjectionOf(%d, %d, %d) = %v", p, c, n, x)
		}
		if ok, code := impl.IsProjection(x); !ok || code != impl.ErrNone {
			t.Fatalf("IsProjection of the projection %d, %d, %d = %v, %d", p, c, n, ok, code)
		}
		for _, u := range modelGenerators(x) {
			if above, below := times(t, u, x), times(t, x, u); len(above.Terms) > 0 || len(below.Terms) > 0 {
				t.Fatalf("products of the projection %d, %d, %d: %v, %v", p, c, n, above, below)
			}
		}
	})
}

// TestProjectionsOfTheRecursion compares with the recursion of the chapter, and with the solution of
// equations.
func TestProjectionsOfTheRecursion(t *testing.T) {
	for _, pair := range [][2]int64{{2, 0}, {2, 1}, {3, 0}, {3, 1}, {5, 2}, {5, 3}, {7, 2}, {7, 3}, {7, 5}, {7, 6}, {11, 3}, {11, 4}, {11, 5}, {13, 5}, {97, 2}, {97, 50}, {97, 96}, {97, 95}} {
		p, c := pair[0], pair[1]
		list := modelProjections(p, c, 5)
		for n := int64(1); n <= 5; n++ {
			x, code := impl.ProjectionOf(p, c, n)
			if int(n) > len(list) {
				if !isZeroElement(x) || code != impl.ErrState {
					t.Errorf("ProjectionOf(%v, %d) = %v, %d", pair, n, x, code)
				}
				continue
			}
			checkElement(t, "ProjectionOf", x, code, list[n-1])
			if killed, ok := modelKilled(p, c, n); !ok || !sameElement(x, killed) {
				t.Errorf("ProjectionOf(%v, %d) = %v, not %v", pair, n, x, killed)
			}
		}
	}
}

func TestProjectionsAreTheirSquares(t *testing.T) {
	forProjections(func(p int64, c int64, n int64) {
		if n == 5 && p > 14 && c > 3 && c < p-1 {
			return
		}
		x := projected(t, p, c, n)
		if y := times(t, x, x); !sameElement(x, y) {
			t.Errorf("the square of the projection %d, %d, %d is %v", p, c, n, y)
		}
		if y := flipped(t, x); !sameElement(x, y) {
			t.Errorf("the flip of the projection %d, %d, %d is %v", p, c, n, y)
		}
	})
}

// TestTracesOfProjections checks promise 16.
func TestTracesOfProjections(t *testing.T) {
	forModuli(func(p int64, c int64) {
		for n := int64(1); n <= min(5, modelZero(p, c)); n++ {
			want := chebyshev(t, p, c, n)
			if trace, code := impl.TraceOfProjection(p, c, n); trace != want || code != impl.ErrNone {
				t.Errorf("TraceOfProjection(%d, %d, %d) = %d, %d, not %d", p, c, n, trace, code, want)
			}
			if trace := traced(t, projected(t, p, c, n)); trace != want || want != modelChebyshev(p, c, n) {
				t.Errorf("the trace of the projection %d, %d, %d is %d, not %d", p, c, n, trace, want)
			}
		}
	})
	for _, kind := range [][4]int64{{5, 0, 1, 0}, {2, 1, 2, 0}, {2, 1, 1, 1}, {7, 3, 3, 0}, {7, 2, 5, 6}, {11, 5, 5, 0}, {11, 4, 4, 0}, {97, 3, 4, 55}, {97, 3, 5, 47}} {
		if trace, code := impl.TraceOfProjection(kind[0], kind[1], kind[2]); trace != kind[3] || code != impl.ErrNone {
			t.Errorf("TraceOfProjection(%v) = %d, %d", kind, trace, code)
		}
	}
}

// TestSmallProjections checks the sizes 1 to 3, of which the coefficients are known by hand.
func TestSmallProjections(t *testing.T) {
	forModuli(func(p int64, c int64) {
		wants := []modelSum{{modelUnit(1): 1}}
		if c != 0 {
			wants = append(wants, modelSum{modelUnit(2): 1, modelDiagram("()()"): -modelInverse(p, c)})
		}
		if c != 0 && c*c%p != 1 {
			k := modelInverse(p, c*c%p+p-1)
			wants = append(wants, modelSum{modelUnit(3): 1, modelDiagram("()()()"): -c * k, modelDiagram("(()())"): -c * k, modelDiagram("(())()"): k, modelDiagram("()(())"): k})
		}
		for i, want := range wants {
			n := int64(i + 1)
			x, code := impl.ProjectionOf(p, c, n)
			checkElement(t, "ProjectionOf", x, code, modelElement(p, c, n, want))
		}
	})
}

func TestCoefficients(t *testing.T) {
	forLoops(func(p int64, c int64) {
		for n := int64(1); n <= 5; n++ {
			x, code := impl.ProjectionOf(p, c, n)
			for _, d := range modelLists[n] {
				factor, other := impl.CoefficientOf(p, c, d)
				if factor != factorOf(x, d) || other != code {
					t.Errorf("CoefficientOf(%d, %d, %s) = %d, %d, not %d, %d", p, c, modelText(d), factor, other, factorOf(x, d), code)
				}
			}
		}
	})
}

func TestCoefficientsByHand(t *testing.T) {
	for _, row := range []struct {
		p, c   int64
		text   string
		factor int64
	}{
		{2, 0, "()", 1}, {97, 96, "()", 1}, {7, 2, "(())", 1}, {7, 2, "()()", 3}, {5, 3, "()()", 3}, {2, 1, "()()", 1},
		{7, 2, "((()))", 1}, {7, 2, "()()()", 4}, {7, 2, "(())()", 5}, {7, 2, "()(())", 5}, {7, 2, "(()())", 4},
		// These are 1, -3/4, -1, -3/4 and 2/3, as f(k) is k + 1.
		{97, 2, "(((())))", 1}, {97, 2, "()(())()", 72}, {97, 2, "(()()())", 96}, {97, 2, "((()()))", 72}, {97, 2, "()()()()", 33},
	} {
		if factor, code := impl.CoefficientOf(row.p, row.c, modelDiagram(row.text)); factor != row.factor || code != impl.ErrNone {
			t.Errorf("CoefficientOf(%d, %d, %s) = %d, %d, not %d", row.p, row.c, row.text, factor, code, row.factor)
		}
	}
}

// checkIsProjection compares an answer with that of the model.
func checkIsProjection(t *testing.T, x impl.Element) bool {
	t.Helper()
	want := modelIsProjection(x)
	if got, code := impl.IsProjection(x); got != want || code != impl.ErrNone {
		t.Fatalf("IsProjection(%v) = %v, %d, not %v", x, got, code, want)
	}
	return want
}

// changed returns elements that differ from x in one factor, which may become 0, or are multiples
// of x.
func changed(x impl.Element) []impl.Element {
	s := modelSumOf(x)
	list := []impl.Element{}
	for _, d := range modelLists[x.Size] {
		for _, k := range []int64{1, -s[d], x.Prime / 2, x.Prime - 1} {
			list = append(list, modelElement(x.Prime, x.Loop, x.Size, s.plus(modelSum{d: 1}, k)))
		}
	}
	for k := range x.Prime {
		list = append(list, modelElement(x.Prime, x.Loop, x.Size, s.plus(s, k-1)))
	}
	return list
}

// TestIsProjection goes through projections, and through elements that differ from them in one
// factor, or by a factor of all.
func TestIsProjection(t *testing.T) {
	for _, pair := range [][2]int64{{2, 0}, {2, 1}, {3, 1}, {3, 2}, {5, 2}, {5, 3}, {7, 2}, {7, 3}, {7, 5}, {11, 4}, {97, 2}, {97, 96}} {
		for _, x := range modelProjections(pair[0], pair[1], 5) {
			if !checkIsProjection(t, x) {
				t.Errorf("%v is no projection of the model", x)
			}
			for _, y := range changed(x) {
				if checkIsProjection(t, y) != sameElement(x, y) {
					t.Errorf("%v is a projection beside %v", y, x)
				}
			}
		}
	}
}

func TestIsProjectionOfSomeElements(t *testing.T) {
	for _, x := range someElements() {
		if x.Size <= 6 {
			checkIsProjection(t, x)
		}
	}
	for n := int64(1); n <= 6; n++ {
		zero := impl.Element{Prime: 7, Loop: 2, Size: n}
		if checkIsProjection(t, zero) || checkIsProjection(t, modelOne(zero)) != (n == 1) {
			t.Errorf("answers for no terms, or for the unit, of the size %d", n)
		}
		for _, u := range modelGenerators(zero) {
			if checkIsProjection(t, u) {
				t.Errorf("%v is a projection", u)
			}
		}
	}
}

// TestIsProjectionOfAllElements goes through all elements of some kinds, of which one at most is a
// projection.
func TestIsProjectionOfAllElements(t *testing.T) {
	for _, kind := range [][4]int64{{2, 0, 1, 2}, {2, 1, 1, 2}, {97, 3, 1, 97}, {2, 0, 2, 4}, {2, 1, 2, 4}, {5, 0, 2, 25}, {5, 3, 2, 25}, {2, 0, 3, 32}, {2, 1, 3, 32}, {3, 0, 3, 243}, {3, 1, 3, 243}, {3, 2, 3, 243}, {5, 2, 3, 3125}} {
		count := 0
		for number := range kind[3] {
			count += b2i(checkIsProjection(t, numbered(kind[0], kind[1], kind[2], number)))
		}
		if _, ok := modelKilled(kind[0], kind[1], kind[2]); count != b2i(ok) {
			t.Errorf("%d elements of %v are projections", count, kind)
		}
	}
}

// TestIsProjectionBehindZeros checks elements that have what is asked for, though the recursion of
// the chapter does not reach their sizes.
func TestIsProjectionBehindZeros(t *testing.T) {
	for _, p := range primes {
		x := modelElement(p, 0, 3, modelSum{modelUnit(3): 1, modelDiagram("(())()"): -1, modelDiagram("()(())"): -1})
		exists, code := impl.ProjectionExists(p, 0, 3)
		if !checkIsProjection(t, x) || exists || code != impl.ErrNone {
			t.Errorf("answers for %v and its size: %v, %d", x, exists, code)
		}
		if y, code := impl.ProjectionOf(p, 0, 3); !isZeroElement(y) || code != impl.ErrState {
			t.Errorf("ProjectionOf(%d, 0, 3) = %v, %d", p, y, code)
		}
	}
	for _, kind := range [][3]int64{{2, 1, 5}, {3, 0, 5}, {3, 2, 5}, {5, 0, 5}, {5, 4, 5}, {7, 6, 5}} {
		x, ok := modelKilled(kind[0], kind[1], kind[2])
		exists, _ := impl.ProjectionExists(kind[0], kind[1], kind[2])
		if !ok || exists || !checkIsProjection(t, x) {
			t.Errorf("answers for %v of the kind %v", x, kind)
		}
	}
}

// TestIsProjectionOfSizeSix checks elements of the greatest size, which has no ProjectionOf.
func TestIsProjectionOfSizeSix(t *testing.T) {
	for _, pair := range [][2]int64{{7, 2}, {7, 5}, {11, 2}, {97, 2}, {97, 40}} {
		list := modelProjections(pair[0], pair[1], 6)
		if len(list) < 6 {
			t.Fatalf("there is no projection of the size 6 for %v", pair)
		}
		x := list[5]
		if !checkIsProjection(t, x) {
			t.Errorf("the element %v of the model is no projection", x)
		}
		for i, term := range x.Terms {
			less := x
			less.Terms = slices.Concat(x.Terms[:i], x.Terms[i+1:])
			other := x
			other.Terms = slices.Clone(x.Terms)
			other.Terms[i].Factor = 1 + term.Factor%(x.Prime-1)
			if checkIsProjection(t, less) || checkIsProjection(t, other) {
				t.Errorf("a projection with another factor at %s is one", modelText(term.Diagram))
			}
		}
		double := modelElement(x.Prime, x.Loop, 6, modelSum{}.plus(modelSumOf(x), 2))
		if checkIsProjection(t, double) {
			t.Errorf("twice a projection is one")
		}
	}
}

// loopsByZero has, for each first zero, a prime and a loop value with it.
func loopsByZero() map[int64][2]int64 {
	list := map[int64][2]int64{}
	forModuli(func(p int64, c int64) {
		list[modelZero(p, c)] = [2]int64{p, c}
	})
	return list
}

// TestFusion compares with products of tables, for all pairs of labels of all first zeros.
func TestFusion(t *testing.T) {
	for zero, pair := range loopsByZero() {
		tables := modelFusion(zero)
		for a := range zero {
			for b := range zero {
				want := []int64{}
				for d, times := range tables[a][b] {
					if times != 0 {
						want = append(want, int64(d))
					}
					if times != 0 && times != 1 || (times == 1) != modelAdmissible(zero, a, b, int64(d)) {
						t.Fatalf("%d, %d and %d are admissible %d times", a, b, d, times)
					}
				}
				if got := fused(t, pair[0], pair[1], a, b); !slices.Equal(got, want) {
					t.Errorf("FusionOf(%v, %d, %d) = %v, not %v", pair, a, b, got, want)
				}
			}
		}
	}
}

// TestFusionInAnyOrder checks promise 5: the order of the labels does not matter, nor that in which
// three of them are fused.
func TestFusionInAnyOrder(t *testing.T) {
	for zero, pair := range loopsByZero() {
		for a := range zero {
			for b := range zero {
				if got, other := fused(t, pair[0], pair[1], a, b), fused(t, pair[0], pair[1], b, a); !slices.Equal(got, other) {
					t.Errorf("FusionOf(%v) of %d and %d: %v, but %v the other way round", pair, a, b, got, other)
				}
			}
		}
		if zero > 10 {
			continue
		}
		for number := range zero * zero * zero {
			a, b, d := number/zero/zero, number/zero%zero, number%zero
			left, right := []int64{}, []int64{}
			for _, k := range fused(t, pair[0], pair[1], a, b) {
				left = append(left, fused(t, pair[0], pair[1], k, d)...)
			}
			for _, k := range fused(t, pair[0], pair[1], b, d) {
				right = append(right, fused(t, pair[0], pair[1], a, k)...)
			}
			slices.Sort(left)
			slices.Sort(right)
			if !slices.Equal(left, right) {
				t.Errorf("fusion of %d, %d and %d for %v: %v, %v", a, b, d, pair, left, right)
			}
		}
	}
}

func TestFusionByHand(t *testing.T) {
	for _, row := range []struct {
		p, c, a, b int64
		want       []int64
	}{
		{5, 0, 0, 0, []int64{0}}, {2, 0, 0, 0, []int64{0}},
		{2, 1, 0, 0, []int64{0}}, {2, 1, 0, 1, []int64{1}}, {2, 1, 1, 1, []int64{0}},
		{7, 3, 1, 1, []int64{0, 2}}, {7, 3, 1, 2, []int64{1}}, {7, 3, 2, 2, []int64{0}},
		{7, 2, 3, 3, []int64{0, 2, 4}}, {7, 2, 2, 3, []int64{1, 3, 5}}, {7, 2, 4, 4, []int64{0, 2}}, {7, 2, 4, 5, []int64{1}}, {7, 2, 0, 5, []int64{5}}, {7, 2, 2, 4, []int64{2, 4}},
		{97, 2, 95, 95, []int64{0}}, {97, 2, 94, 95, []int64{1}}, {97, 2, 0, 95, []int64{95}}, {97, 2, 2, 40, []int64{38, 40, 42}},
	} {
		if got := fused(t, row.p, row.c, row.a, row.b); !slices.Equal(got, row.want) {
			t.Errorf("FusionOf(%d, %d, %d, %d) = %v, not %v", row.p, row.c, row.a, row.b, got, row.want)
		}
	}
}

// TestAdmissibleLabels goes through all labels of the smaller first zeros, and some of the others.
func TestAdmissibleLabels(t *testing.T) {
	for zero, pair := range loopsByZero() {
		s := sampler(zero)
		for number := range min(zero*zero*zero, 5000) {
			a, b, d := number/zero/zero, number/zero%zero, number%zero
			if zero > 17 {
				a, b, d = s.below(zero), s.below(zero), s.below(zero)
			}
			if number%50 == 0 {
				d = zero - 1
			}
			want := modelAdmissible(zero, a, b, d)
			for _, labels := range [][3]int64{{a, b, d}, {a, d, b}, {b, a, d}, {b, d, a}, {d, a, b}, {d, b, a}} {
				if got, code := impl.IsAdmissible(pair[0], pair[1], labels[0], labels[1], labels[2]); got != want || code != impl.ErrNone {
					t.Errorf("IsAdmissible(%v, %v) = %v, %d, not %v", pair, labels, got, code, want)
				}
			}
			if got := slices.Contains(fused(t, pair[0], pair[1], a, b), d); got != want {
				t.Errorf("FusionOf(%v, %d, %d) has %d: %v", pair, a, b, d, got)
			}
		}
	}
}

func TestAdmissibleLabelsByHand(t *testing.T) {
	for _, row := range []struct {
		labels [3]int64
		want   bool
	}{
		{[3]int64{0, 0, 0}, true}, {[3]int64{0, 0, 1}, false}, {[3]int64{0, 0, 2}, false}, {[3]int64{0, 1, 1}, true}, {[3]int64{1, 1, 1}, false}, {[3]int64{1, 1, 2}, true},
		{[3]int64{1, 1, 4}, false}, {[3]int64{1, 2, 5}, false}, {[3]int64{2, 3, 5}, true}, {[3]int64{1, 4, 5}, true}, {[3]int64{3, 3, 4}, true}, {[3]int64{3, 4, 5}, false}, {[3]int64{4, 4, 4}, false},
		{[3]int64{4, 4, 2}, true}, {[3]int64{5, 5, 0}, true}, {[3]int64{5, 5, 2}, false}, {[3]int64{0, 5, 5}, true}, {[3]int64{2, 4, 4}, true}, {[3]int64{3, 3, 3}, false}, {[3]int64{2, 2, 2}, true},
	} {
		if got, code := impl.IsAdmissible(7, 2, row.labels[0], row.labels[1], row.labels[2]); got != row.want || code != impl.ErrNone {
			t.Errorf("IsAdmissible(7, 2, %v) = %v, %d", row.labels, got, code)
		}
	}
}

// forAdmissible calls use with all admissible labels of the smaller first zeros, and some of the
// others.
func forAdmissible(use func(p int64, c int64, a int64, b int64, d int64)) {
	for zero, pair := range loopsByZero() {
		for a := range zero {
			for b := range zero {
				for d := range zero {
					if modelAdmissible(zero, a, b, d) && (zero < 12 || (a*31+b*17+d)%97 == zero%97) {
						use(pair[0], pair[1], a, b, d)
					}
				}
			}
		}
	}
}

// TestThetaNumbers checks that theta numbers are those of the labels in any order.
func TestThetaNumbers(t *testing.T) {
	forAdmissible(func(p int64, c int64, a int64, b int64, d int64) {
		want := modelTheta(p, c, a, b, d)
		for _, labels := range [][3]int64{{a, b, d}, {a, d, b}, {b, a, d}, {b, d, a}, {d, a, b}, {d, b, a}} {
			if got := theta(t, p, c, labels[0], labels[1], labels[2]); got != want {
				t.Errorf("ThetaNumber(%d, %d, %v) = %d, not %d", p, c, labels, got, want)
			}
		}
	})
}

// TestThetaNumbersOfFewLines checks labels of which x, y or w is 0: their theta number is the
// Chebyshev number of the greatest one.
func TestThetaNumbersOfFewLines(t *testing.T) {
	forModuli(func(p int64, c int64) {
		zero := modelZero(p, c)
		for a := range zero {
			for _, b := range []int64{0, 1, a / 2, a, a + 1} {
				if a+b >= zero {
					continue
				}
				want := chebyshev(t, p, c, a+b)
				for _, labels := range [][3]int64{{a, b, a + b}, {a, a + b, b}, {a + b, a, b}} {
					if got := theta(t, p, c, labels[0], labels[1], labels[2]); got != want {
						t.Errorf("ThetaNumber(%d, %d, %v) = %d, not %d", p, c, labels, got, want)
					}
				}
			}
		}
	})
}

func TestThetaNumbersByHand(t *testing.T) {
	for _, row := range [][6]int64{
		{5, 0, 0, 0, 0, 1}, {2, 0, 0, 0, 0, 1}, {2, 1, 0, 1, 1, 1}, {2, 1, 0, 0, 0, 1}, {7, 2, 0, 5, 5, 6}, {7, 2, 1, 1, 0, 2}, {97, 96, 1, 1, 0, 96},
		// With x, y and w of 1: f(1) f(2) f(3) / f(1)^3, which is 24 / 8 for f(k) = k + 1.
		{7, 2, 2, 2, 2, 3}, {97, 2, 2, 2, 2, 3}, {11, 3, 2, 2, 2, 4},
		// With x of 1, y of 2, w of 1: g(4) g(1) / (g(2) g(1) g(2)), which is 120 * 2 / (6 * 2 * 6).
		{97, 2, 2, 3, 3, 68}, {7, 2, 2, 3, 3, 1},
	} {
		if got := theta(t, row[0], row[1], row[2], row[3], row[4]); got != row[5] {
			t.Errorf("ThetaNumber(%v) = %d", row, got)
		}
	}
}

// TestPaths compares with the principle of reflection, for all arguments.
func TestPaths(t *testing.T) {
	for z := int64(1); z <= 100; z++ {
		for n := range int64(41) {
			for k := range z {
				if got, code := impl.CountPaths(z, n, k); code != impl.ErrNone || got != modelPaths(z, n, k) {
					t.Errorf("CountPaths(%d, %d, %d) = %d, %d, not %d", z, n, k, got, code, modelPaths(z, n, k))
				}
			}
		}
	}
}

func TestPathsByHand(t *testing.T) {
	for _, row := range [][4]int64{
		{1, 0, 0, 1}, {1, 1, 0, 0}, {1, 2, 0, 0}, {1, 40, 0, 0}, {2, 0, 0, 1}, {2, 0, 1, 0}, {2, 1, 1, 1}, {2, 39, 1, 1}, {2, 40, 0, 1}, {2, 40, 1, 0},
		{3, 2, 0, 1}, {3, 2, 2, 1}, {3, 3, 1, 2}, {3, 40, 0, 524288}, {3, 40, 2, 524288}, {4, 40, 0, 63245986}, {100, 40, 0, 6564120420}, {100, 39, 1, 6564120420}, {100, 40, 40, 1}, {100, 40, 38, 39}, {100, 40, 99, 0}, {100, 40, 42, 0},
		{41, 40, 40, 1}, {40, 40, 39, 0}, {40, 40, 38, 39}, {39, 40, 38, 38}, {100, 0, 0, 1}, {100, 0, 99, 0}, {100, 1, 0, 0}, {100, 5, 1, 5}, {100, 5, 3, 4}, {100, 40, 2, 17902146600},
	} {
		if got, code := impl.CountPaths(row[0], row[1], row[2]); got != row[3] || code != impl.ErrNone {
			t.Errorf("CountPaths(%v) = %d, %d", row, got, code)
		}
	}
}

// TestPathsAreHalves checks that ways are as many as half diagrams with as many open points.
func TestPathsAreHalves(t *testing.T) {
	for n := int64(1); n <= 8; n++ {
		for k := int64(n % 2); k <= n; k += 2 {
			count, _ := impl.CountHalves(n, k)
			if got, code := impl.CountPaths(100, n, k); got != count || code != impl.ErrNone {
				t.Errorf("CountPaths(100, %d, %d) = %d, %d, not %d", n, k, got, code, count)
			}
		}
	}
}

// TestPathsAreFusions checks that ways to k are as many as k comes out of n labels 1.
func TestPathsAreFusions(t *testing.T) {
	for zero, pair := range loopsByZero() {
		if zero == 1 {
			continue
		}
		counts := make([]int64, zero)
		counts[0] = 1
		for n := range int64(41) {
			for k, count := range counts {
				if got, code := impl.CountPaths(zero, n, int64(k)); got != count || code != impl.ErrNone {
					t.Errorf("CountPaths(%d, %d, %d) = %d, %d, not %d", zero, n, k, got, code, count)
				}
			}
			next := make([]int64, zero)
			for k, count := range counts {
				for _, d := range fused(t, pair[0], pair[1], int64(k), 1) {
					next[d] += count
				}
			}
			counts = next
		}
	}
}
