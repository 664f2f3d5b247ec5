package tests

import (
	"slices"
	"testing"

	"loop.example/g01251/impl"
)

// Tests of chapter 5: errors, their order, and the memory of arguments and results.

// numbers05 are the functions that return a number or an answer, with a prime, a loop value and three
// numbers, of which some take no notice.
var numbers05 = map[string]func(p int64, c int64, a int64, b int64, d int64) (int64, int64){
	"ChebyshevNumber": func(p int64, c int64, a int64, b int64, d int64) (int64, int64) { return impl.ChebyshevNumber(p, c, a) },
	"FirstZero":       func(p int64, c int64, a int64, b int64, d int64) (int64, int64) { return impl.FirstZero(p, c) },
	"ProjectionExists": func(p int64, c int64, a int64, b int64, d int64) (int64, int64) {
		exists, code := impl.ProjectionExists(p, c, a)
		return int64(b2i(exists)), code
	},
	"ProjectionOf": func(p int64, c int64, a int64, b int64, d int64) (int64, int64) {
		x, code := impl.ProjectionOf(p, c, a)
		return int64(b2i(!isZeroElement(x))), code
	},
	"TraceOfProjection": func(p int64, c int64, a int64, b int64, d int64) (int64, int64) {
		return impl.TraceOfProjection(p, c, a)
	},
	"IsAdmissible": func(p int64, c int64, a int64, b int64, d int64) (int64, int64) {
		admissible, code := impl.IsAdmissible(p, c, a, b, d)
		return int64(b2i(admissible)), code
	},
	"FusionOf": func(p int64, c int64, a int64, b int64, d int64) (int64, int64) {
		labels, code := impl.FusionOf(p, c, a, b)
		return int64(len(labels)), code
	},
	"ThetaNumber": impl.ThetaNumber,
}

func TestErrorsOfPrimesAndLoops(t *testing.T) {
	for _, pair := range badModuli() {
		for name, find := range numbers05 {
			for _, k := range [][3]int64{{0, 0, 0}, {1, 0, 1}, {1, 1, 1}, {2, 2, 2}, {5, 6, 7}, {1001, 1001, 1001}, {-1, -1, -1}} {
				if number, code := find(pair[0], pair[1], k[0], k[1], k[2]); number != 0 || code != impl.ErrRange {
					t.Errorf("%s of %v and %v = %d, %d", name, pair, k, number, code)
				}
			}
		}
		for n := int64(1); n <= 8; n++ {
			if factor, code := impl.CoefficientOf(pair[0], pair[1], modelUnit(n)); factor != 0 || code != impl.ErrRange {
				t.Errorf("CoefficientOf of %v and the size %d = %d, %d", pair, n, factor, code)
			}
		}
	}
}

func TestErrorsOfIndices(t *testing.T) {
	for _, pair := range [][2]int64{{2, 0}, {2, 1}, {7, 2}, {97, 96}} {
		for _, k := range slices.Concat([]int64{1001, 1002, 2000, 1256}, outside) {
			if k >= 0 && k <= 1000 {
				continue
			}
			if number, code := impl.ChebyshevNumber(pair[0], pair[1], k); number != 0 || code != impl.ErrRange {
				t.Errorf("ChebyshevNumber(%v, %d) = %d, %d", pair, k, number, code)
			}
		}
		for _, n := range append([]int64{0, 9, 10, 257}, outside...) {
			if exists, code := impl.ProjectionExists(pair[0], pair[1], n); exists || code != impl.ErrRange {
				t.Errorf("ProjectionExists(%v, %d) = %v, %d", pair, n, exists, code)
			}
		}
		// Neither do those of 6 to 8 exist for the least loop values, which is ErrState behind ErrRange.
		for _, n := range append([]int64{0, 6, 7, 8, 9, 257}, outside...) {
			if x, code := impl.ProjectionOf(pair[0], pair[1], n); !isZeroElement(x) || code != impl.ErrRange {
				t.Errorf("ProjectionOf(%v, %d) = %v, %d", pair, n, x, code)
			}
			if trace, code := impl.TraceOfProjection(pair[0], pair[1], n); trace != 0 || code != impl.ErrRange {
				t.Errorf("TraceOfProjection(%v, %d) = %d, %d", pair, n, trace, code)
			}
		}
	}
}

// TestErrorsOfMissingProjections goes through the sizes behind the first zero.
func TestErrorsOfMissingProjections(t *testing.T) {
	for _, row := range [][3]int64{{2, 0, 2}, {5, 0, 2}, {97, 0, 2}, {2, 1, 3}, {3, 1, 3}, {3, 2, 3}, {97, 1, 3}, {97, 96, 3}, {7, 3, 4}, {7, 4, 4}, {5, 2, 5}, {11, 4, 0}, {5, 3, 5}} {
		p, c := row[0], row[1]
		for n := int64(1); n <= 5; n++ {
			want := impl.ErrNone
			if row[2] != 0 && n >= row[2] || row[2] == 0 && n > 4 {
				want = impl.ErrState
			}
			x, code := impl.ProjectionOf(p, c, n)
			trace, traceCode := impl.TraceOfProjection(p, c, n)
			if code != int64(want) || traceCode != int64(want) || want != impl.ErrNone && (!isZeroElement(x) || trace != 0) {
				t.Errorf("ProjectionOf, TraceOfProjection(%d, %d, %d): %v, %d, %d, %d", p, c, n, x, code, trace, traceCode)
			}
			for _, d := range modelLists[n] {
				factor, code := impl.CoefficientOf(p, c, d)
				if code != int64(want) || want != impl.ErrNone && factor != 0 {
					t.Errorf("CoefficientOf(%d, %d, %s) = %d, %d", p, c, modelText(d), factor, code)
				}
			}
		}
	}
}

// TestErrorsOfCoefficients checks that ErrInvalid comes ahead of ErrRange, and that ahead of ErrState.
func TestErrorsOfCoefficients(t *testing.T) {
	pairs := append(badModuli(), [2]int64{5, 0}, [2]int64{7, 2}, [2]int64{97, 96})
	for _, bad := range badDiagrams() {
		for _, pair := range pairs {
			if factor, code := impl.CoefficientOf(pair[0], pair[1], bad); factor != 0 || code != impl.ErrInvalid {
				t.Errorf("CoefficientOf(%v, %v) = %d, %d", pair, bad, factor, code)
			}
		}
	}
	for n := int64(6); n <= 8; n++ {
		for _, pair := range pairs {
			for _, d := range []impl.Diagram{modelUnit(n), modelGenerator(n, 0), modelLists[n][100]} {
				if factor, code := impl.CoefficientOf(pair[0], pair[1], d); factor != 0 || code != impl.ErrRange {
					t.Errorf("CoefficientOf(%v, %s) = %d, %d", pair, modelText(d), factor, code)
				}
			}
		}
	}
}

// TestErrorsOfIsProjection checks that ErrInvalid comes ahead of ErrRange.
func TestErrorsOfIsProjection(t *testing.T) {
	for _, bad := range badElements() {
		if ok, code := impl.IsProjection(bad); ok || code != impl.ErrInvalid {
			t.Errorf("IsProjection(%v) = %v, %d", bad, ok, code)
		}
	}
	for _, p := range []int64{2, 7, 97} {
		for n := int64(7); n <= 8; n++ {
			zero := impl.Element{Prime: p, Loop: p - 1, Size: n}
			for _, x := range []impl.Element{zero, modelOne(zero), firstTerms(p, 0, n, 0, 140), firstTerms(p, 1, n, 289, 140)} {
				if ok, code := impl.IsProjection(x); ok || code != impl.ErrRange {
					t.Errorf("IsProjection(%v) = %v, %d", x, ok, code)
				}
			}
		}
		zero := impl.Element{Prime: p, Loop: p - 1, Size: 6}
		for _, x := range []impl.Element{zero, modelOne(zero), firstTerms(p, 0, 6, 0, 132)} {
			if ok, code := impl.IsProjection(x); ok || code != impl.ErrNone {
				t.Errorf("IsProjection(%v) = %v, %d", x, ok, code)
			}
		}
	}
}

// TestErrorsOfLabels goes through labels at, and behind, the ends of their range, of which some would
// be admissible otherwise.
func TestErrorsOfLabels(t *testing.T) {
	for zero, pair := range loopsByZero() {
		p, c := pair[0], pair[1]
		for _, bad := range append([]int64{zero, zero + 1, zero + 2, 2 * zero}, outside...) {
			for _, good := range []int64{0, zero - 1, zero / 2} {
				for _, labels := range [][3]int64{{bad, good, good}, {good, bad, good}, {good, good, bad}, {bad, bad, good}, {bad, good, bad}, {good, bad, bad}, {bad, bad, bad}} {
					a, b, d := labels[0], labels[1], labels[2]
					if ok, code := impl.IsAdmissible(p, c, a, b, d); ok || code != impl.ErrRange {
						t.Errorf("IsAdmissible(%v, %v) = %v, %d", pair, labels, ok, code)
					}
					if number, code := impl.ThetaNumber(p, c, a, b, d); number != 0 || code != impl.ErrRange {
						t.Errorf("ThetaNumber(%v, %v) = %d, %d", pair, labels, number, code)
					}
					if a == good && b == good {
						continue
					}
					if list, code := impl.FusionOf(p, c, a, b); len(list) != 0 || code != impl.ErrRange {
						t.Errorf("FusionOf(%v, %d, %d) = %v, %d", pair, a, b, list, code)
					}
				}
			}
		}
	}
}

// TestErrorsOfThetaNumbers goes through labels that are not admissible.
func TestErrorsOfThetaNumbers(t *testing.T) {
	count := 0
	for zero, pair := range loopsByZero() {
		for number := range min(zero, 12) * min(zero, 12) * min(zero, 12) {
			side := min(zero, 12)
			a, b, d := number/side/side, number/side%side, number%side
			if number%3 == 0 { // and those at the other end of the range
				a, b, d = zero-1-a, zero-1-b, zero-1-d
			}
			if modelAdmissible(zero, a, b, d) {
				continue
			}
			count++
			if got, code := impl.ThetaNumber(pair[0], pair[1], a, b, d); got != 0 || code != impl.ErrState {
				t.Errorf("ThetaNumber(%v, %d, %d, %d) = %d, %d", pair, a, b, d, got, code)
			}
		}
	}
	for _, labels := range [][3]int64{{1, 1, 1}, {0, 0, 1}, {0, 0, 2}, {1, 1, 4}, {3, 4, 5}, {4, 4, 4}, {5, 5, 2}, {5, 5, 5}} {
		if got, code := impl.ThetaNumber(7, 2, labels[0], labels[1], labels[2]); got != 0 || code != impl.ErrState {
			t.Errorf("ThetaNumber(7, 2, %v) = %d, %d", labels, got, code)
		}
	}
	if count < 10000 {
		t.Errorf("only %d labels are not admissible", count)
	}
}

func TestErrorsOfPaths(t *testing.T) {
	bad := [][3]int64{{0, 0, 0}, {0, 0, -1}, {101, 0, 0}, {101, 40, 100}, {102, 1, 1}, {1, 41, 0}, {2, 41, 1}, {100, 41, 1}, {100, 42, 0}, {1, 0, 1}, {1, 1, 1}, {2, 2, 2}, {100, 40, 100}, {100, 40, 101}, {3, 40, 4}, {100, -1, 0}, {5, 3, -1}, {40, 40, 40}, {256, 0, 0}, {257, 0, 0}}
	for _, k := range outside {
		bad = append(bad, [3]int64{k, 0, 0}, [3]int64{k, 4, 2}, [3]int64{k, k, k}, [3]int64{100, k, 0}, [3]int64{1, k, 0}, [3]int64{100, 4, k}, [3]int64{100, 0, k}, [3]int64{1, 0, k}, [3]int64{k, 0, k - 1})
	}
	for _, row := range bad {
		if count, code := impl.CountPaths(row[0], row[1], row[2]); count != 0 || code != impl.ErrRange {
			t.Errorf("CountPaths(%v) = %d, %d", row, count, code)
		}
	}
}

// TestMemoryOfProjections checks that results are their own, and that arguments are kept.
func TestMemoryOfProjections(t *testing.T) {
	for _, pair := range [][2]int64{{2, 1}, {7, 2}, {97, 3}} {
		for _, want := range modelProjections(pair[0], pair[1], 5) {
			x := projected(t, pair[0], pair[1], want.Size)
			scribble(x)
			if y := projected(t, pair[0], pair[1], want.Size); !sameElement(y, want) {
				t.Errorf("ProjectionOf(%v, %d) = %v behind a change of another one", pair, want.Size, y)
			}
			room := spared(want)
			if ok, _ := impl.IsProjection(room); !ok || !isSpared(want, room) {
				t.Errorf("IsProjection(%v) = %v, or it changed its argument", want, ok)
			}
		}
	}
	for _, pair := range [][2]int64{{2, 1}, {7, 2}, {97, 2}} {
		zero := modelZero(pair[0], pair[1])
		want := fused(t, pair[0], pair[1], zero/2, zero/2)
		first := fused(t, pair[0], pair[1], zero/2, zero/2)
		fill(first)
		if again := fused(t, pair[0], pair[1], zero/2, zero/2); !slices.Equal(again, want) {
			t.Errorf("FusionOf(%v) = %v behind a change of another one, not %v", pair, again, want)
		}
	}
}
