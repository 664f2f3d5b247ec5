package tests

import (
	"slices"
	"testing"

	"loop.example/g01251/impl"
)

// Tests of chapter 8: errors, their order, and the memory of arguments and results.

// two08 are the functions that take two systems, with the answer whether their result is the zero
// value.
var two08 = map[string]func(a string, b string) (bool, int64){
	"ComponentsOfPair": func(a string, b string) (bool, int64) {
		count, code := impl.ComponentsOfPair(a, b)
		return count == 0, code
	},
	"OrderOfMeander": func(a string, b string) (bool, int64) {
		order, code := impl.OrderOfMeander(a, b)
		return len(order) == 0, code
	},
	"IsIrreduciblePair": func(a string, b string) (bool, int64) {
		yes, code := impl.IsIrreduciblePair(a, b)
		return !yes, code
	},
}

// numbers08 are the functions that take a number of arches, with the greatest one, and with the
// answer whether their result is the zero value.
var numbers08 = map[string]struct {
	last int64
	find func(m int64) (bool, int64)
}{
	"SystemsOf": {6, func(m int64) (bool, int64) {
		list, code := impl.SystemsOf(m)
		return len(list) == 0, code
	}},
	"RainbowOf": {6, func(m int64) (bool, int64) {
		a, code := impl.RainbowOf(m)
		return a == "", code
	}},
	"ComponentTable": {4, func(m int64) (bool, int64) {
		table, code := impl.ComponentTable(m)
		return len(table) == 0, code
	}},
	"ComponentDeterminant": {4, func(m int64) (bool, int64) {
		x, code := impl.ComponentDeterminant(97, 2, m)
		return x == 0, code
	}},
	"CountByComponents": {5, func(m int64) (bool, int64) {
		counts, code := impl.CountByComponents(m)
		return len(counts) == 0, code
	}},
	"CountWithRainbow": {6, func(m int64) (bool, int64) {
		count, code := impl.CountWithRainbow(m)
		return count == 0, code
	}},
}

// TestErrorsOfNoSystems checks that ErrInvalid comes ahead of ErrRange and ErrState.
func TestErrorsOfNoSystems(t *testing.T) {
	goods := []string{"()", "()()", "(())", "(())()", "()()()", "((((()))))", "()()()()()()"}
	for _, bad := range badSystems() {
		if impl.IsSystem(bad) || modelIsSystem(bad) {
			t.Errorf("IsSystem(%q) = true", bad)
		}
		if a, code := impl.TurnSystem(bad); a != "" || code != impl.ErrInvalid {
			t.Errorf("TurnSystem(%q) = %q, %d", bad, a, code)
		}
		for name, find := range two08 {
			for _, good := range goods {
				for _, pair := range [][2]string{{bad, good}, {good, bad}} {
					if zero, code := find(pair[0], pair[1]); !zero || code != impl.ErrInvalid {
						t.Errorf("%s(%q): code %d", name, pair, code)
					}
				}
			}
			for _, other := range []string{bad, "", "(", ")(", "()()()()()()()"} {
				if zero, code := find(bad, other); !zero || code != impl.ErrInvalid {
					t.Errorf("%s(%q, %q): code %d", name, bad, other, code)
				}
			}
		}
	}
}

// TestErrorsOfShortTexts goes through all pairs of texts of brackets of at most six letters. Of those
// that are systems of equally many arches some are no meanders, so that ErrState comes last.
func TestErrorsOfShortTexts(t *testing.T) {
	texts := []string{}
	for length := range 7 {
		forTexts("()", length, func(text string) { texts = append(texts, text) })
	}
	for _, a := range texts {
		for _, b := range texts {
			want := int64(impl.ErrNone)
			if !modelIsSystem(a) || !modelIsSystem(b) {
				want = impl.ErrInvalid
			} else if len(a) != len(b) {
				want = impl.ErrRange
			}
			for name, find := range two08 {
				expected := want
				if want == impl.ErrNone && name == "OrderOfMeander" && modelCurves(a, b) > 1 {
					expected = impl.ErrState
				}
				if zero, code := find(a, b); code != expected || code != impl.ErrNone && !zero {
					t.Fatalf("%s(%q, %q): code %d, not %d", name, a, b, code, expected)
				}
			}
		}
	}
}

// TestErrorsOfDifferentNumbersOfArches checks that ErrRange comes ahead of ErrState.
func TestErrorsOfDifferentNumbersOfArches(t *testing.T) {
	for m, list := range modelSystems {
		for k, others := range modelSystems {
			if m == k {
				continue
			}
			for _, a := range list {
				for _, b := range others[:min(len(others), 6)] {
					for name, find := range two08 {
						if zero, code := find(a, b); !zero || code != impl.ErrRange {
							t.Fatalf("%s(%q, %q): code %d", name, a, b, code)
						}
						if zero, code := find(b, a); !zero || code != impl.ErrRange {
							t.Fatalf("%s(%q, %q): code %d", name, b, a, code)
						}
					}
				}
			}
		}
	}
}

func TestErrorsOfNoMeanders(t *testing.T) {
	for _, pair := range [][2]string{
		{"()()", "()()"}, {"(())", "(())"}, {"()()()", "((()))"}, {"(())()", "()()()"}, {"(()())", "((()))"}, {"(((())))", "(())(())"}, {"()()()()", "(((())))"}, {"(((((())))))", "(((((())))))"}, {"()()()()()()", "(((((())))))"}, {"()()()()()()", "()()()()()()"},
	} {
		if order, code := impl.OrderOfMeander(pair[0], pair[1]); len(order) != 0 || code != impl.ErrState {
			t.Errorf("OrderOfMeander(%q) = %v, %d", pair, order, code)
		}
	}
}

// TestErrorsOfOrders checks lists that are no orders at all, and that ErrRange comes ahead of
// ErrState.
func TestErrorsOfOrders(t *testing.T) {
	for _, order := range [][]int64{
		nil, {}, {0}, {1}, {-1}, {0, 0}, {1, 0}, {1, 2}, {0, 2}, {0, -1}, {2, 1}, {1, 1}, {-1, 0}, {0, 1, 2}, {0, 2, 1}, {0, 1, 2, 3, 4},
		{0, 1, 2, 2}, {0, 1, 1, 3}, {0, 0, 2, 3}, {0, 1, 2, 4}, {0, 1, 2, -3}, {0, 1, -2, 3}, {0, -1, 2, 3}, {1, 2, 3, 4}, {1, 2, 3, 0}, {3, 2, 1, 0}, {1, 0, 3, 2}, {0, 2, 1, 4}, {0, 2, 1, 1}, {0, 0, 0, 0}, {0, 256, 2, 3}, {0, 1 << 32, 2, 3}, {0, 1, 1<<32 + 2, 3},
		{0, 1, 2, 3, 4, 6}, {5, 4, 3, 2, 1, 0}, {0, 3, 1, 4, 2, 2}, {0, 3, 1, 4, 2, 7}, {2, 0, 3, 1, 4, 5}, {0, 1, 2, 3, 4, 5, 6}, {0, 1, 2, 3, 4, 5, 6, 7, 8, 9, 10},
		{0, 1, 2, 3, 4, 5, 6, 7, 8, 9, 10, 12}, {0, 1, 2, 3, 4, 5, 6, 7, 8, 9, 10, 10}, {11, 0, 1, 2, 3, 4, 5, 6, 7, 8, 9, 10}, {1, 2, 3, 4, 5, 6, 7, 8, 9, 10, 11, 12},
		{0, 1, 2, 3, 4, 5, 6, 7, 8, 9, 10, 11, 12}, {0, 1, 2, 3, 4, 5, 6, 7, 8, 9, 10, 11, 12, 13}, {0, 13, 12, 11, 10, 9, 8, 7, 6, 5, 4, 3, 2, 1}, {0, 2, 1, 3, 4, 5, 6, 7, 8, 9, 10, 11, 12, 13}, {0, 1, 2, 3, 4, 5, 6, 7, 8, 9, 10, 11, 12, 13, 14, 15},
		make([]int64, 12), make([]int64, 14), make([]int64, 4000),
	} {
		if a, b, code := impl.MeanderOfOrder(order); a != "" || b != "" || code != impl.ErrRange {
			t.Errorf("MeanderOfOrder(%v) = %q, %q, %d", order, a, b, code)
		}
	}
	for _, number := range outside {
		for i := range 6 {
			order := []int64{0, 1, 2, 3, 4, 5}
			order[i] = number
			if a, b, code := impl.MeanderOfOrder(order); a != "" || b != "" || code != impl.ErrRange {
				t.Errorf("MeanderOfOrder(%v) = %q, %q, %d", order, a, b, code)
			}
		}
	}
}

// TestErrorsOfNumbersOfOrders goes through all lists of at most five of some numbers.
func TestErrorsOfNumbersOfOrders(t *testing.T) {
	for length := range 6 {
		forWords(7, length, func(word []int64) {
			order := []int64{}
			for _, i := range word {
				order = append(order, i-1)
			}
			a, b, code := impl.MeanderOfOrder(order)
			isOrder := length > 0 && length%2 == 0 && order[0] == 0 && modelIsPermutation(order)
			if !isOrder && (a != "" || b != "" || code != impl.ErrRange) || isOrder && code == impl.ErrRange {
				t.Fatalf("MeanderOfOrder(%v) = %q, %q, %d", order, a, b, code)
			}
		})
	}
}

// TestErrorsOfCrossingArches checks lists with all numbers whose arches cross above, below, or on both
// sides.
func TestErrorsOfCrossingArches(t *testing.T) {
	for _, order := range [][]int64{
		{0, 2, 1, 3},             // above: one point is left over between 0 and 2
		{0, 2, 3, 1},             // above
		{0, 1, 3, 2},             // below: one point is left over between 1 and 3
		{0, 3, 1, 2},             // below
		{0, 2, 1, 3, 4, 5},       // above, at the left
		{0, 1, 2, 4, 3, 5},       // above, at the right
		{0, 1, 3, 2, 4, 5},       // below, in the middle
		{0, 4, 3, 2, 1, 5},       // above: of the points between 0 and 4 one is left over
		{0, 3, 1, 2, 4, 5},       // below, in the middle
		{0, 5, 2, 1, 4, 3},       // below, with evenly many points between both ends of each arch
		{0, 3, 4, 1, 2, 5},       // above, with evenly many points between both ends of each arch
		{0, 3, 1, 4, 2, 5},       // both: above, all arches cross each other
		{0, 2, 4, 1, 3, 5},       // both
		{0, 1, 4, 7, 2, 3, 6, 5}, // below, with evenly many points between both ends of each arch
		{0, 2, 1, 3, 4, 5, 6, 7, 8, 9, 10, 11},
		{0, 1, 2, 3, 4, 5, 6, 7, 8, 9, 11, 10},
		{0, 11, 10, 9, 8, 7, 6, 5, 4, 3, 1, 2},
		{0, 6, 1, 7, 2, 8, 3, 9, 4, 10, 5, 11},
		{0, 10, 2, 8, 4, 6, 1, 3, 5, 7, 9, 11},
		{0, 1, 2, 3, 4, 7, 6, 5, 8, 10, 9, 11},
		{0, 2, 4, 6, 8, 10, 11, 9, 7, 5, 3, 1},
		{0, 9, 10, 11, 8, 1, 2, 7, 6, 3, 5, 4},
	} {
		if a, b, code := impl.MeanderOfOrder(order); a != "" || b != "" || code != impl.ErrState {
			t.Errorf("MeanderOfOrder(%v) = %q, %q, %d", order, a, b, code)
		}
	}
}

// TestErrorsOfNumbersOfArches goes through numbers around the ranges of all functions.
func TestErrorsOfNumbersOfArches(t *testing.T) {
	for _, m := range slices.Concat([]int64{0, 1, 2, 3, 4, 5, 6, 7, 8, 9, 12, 14, 1<<32 + 2, 1<<62 + 1, 1<<62 + 3, -1<<62 + 2, 258}, outside) {
		for name, x := range numbers08 {
			zero, code := x.find(m)
			if isIn := m >= 1 && m <= x.last; isIn && (zero || code != impl.ErrNone) || !isIn && (!zero || code != impl.ErrRange) {
				t.Errorf("%s(%d): code %d", name, m, code)
			}
		}
	}
}

// TestErrorsOfComponentDeterminants goes through numbers that are no primes in their range, and
// numbers c just out of theirs, for numbers of arches in and out of their range.
func TestErrorsOfComponentDeterminants(t *testing.T) {
	for _, pair := range badModuli() {
		for _, m := range []int64{-1, 0, 1, 2, 3, 4, 5, 6} {
			if x, code := impl.ComponentDeterminant(pair[0], pair[1], m); x != 0 || code != impl.ErrRange {
				t.Errorf("ComponentDeterminant(%v, %d) = %d, %d", pair, m, x, code)
			}
		}
	}
	for _, p := range primes {
		for _, c := range []int64{0, 1, p - 1} {
			for _, m := range append([]int64{0, 5, 6, 7}, outside...) {
				if x, code := impl.ComponentDeterminant(p, c, m); x != 0 || code != impl.ErrRange {
					t.Errorf("ComponentDeterminant(%d, %d, %d) = %d, %d", p, c, m, x, code)
				}
			}
			for m := int64(1); m <= 4; m++ {
				if x, code := impl.ComponentDeterminant(p, c, m); x != meanderDeterminant(p, c, m) || code != impl.ErrNone {
					t.Errorf("ComponentDeterminant(%d, %d, %d) = %d, %d", p, c, m, x, code)
				}
			}
		}
	}
}

// TestMemoryOfOrders checks that orders are not changed, nor the spare capacity behind them, and that
// results share no memory.
func TestMemoryOfOrders(t *testing.T) {
	for _, want := range [][]int64{
		{}, {0}, {0, 1}, {1, 0}, {0, 0}, {0, 1, 2, 3}, {0, 3, 2, 1}, {0, 2, 1, 3}, {0, 1, 3, 2}, {0, 3, 4, 5, 2, 1}, {0, 1, 2, 3, 4, 5, 6, 7, 8, 9, 10, 11}, {0, 11, 10, 9, 8, 7, 6, 5, 4, 3, 2, 1}, {0, 6, 1, 7, 2, 8, 3, 9, 4, 10, 5, 11}, {0, 1, 2, 3, 4, 5, 6, 7, 8, 9, 10, 11, 12, 13}, {3, 2, 1, 0},
	} {
		order := roomy(want)
		impl.MeanderOfOrder(order)
		if !isRoomy(order, want) {
			t.Errorf("%v became %v", want, order[:len(want)+3])
		}
	}
	for _, pair := range [][2]string{{"()", "()"}, {"()()", "(())"}, {"(())()", "()(())"}, {"()()()()()()", "(()()()()())"}} {
		checkNew(t, "OrderOfMeander", -77, func() []int64 { return ordered(t, pair[0], pair[1]) })
	}
}

func TestMemoryOfSystemsAndTables(t *testing.T) {
	for m := int64(1); m <= 6; m++ {
		checkNew(t, "SystemsOf", "x", func() []string {
			list, _ := impl.SystemsOf(m)
			return list
		})
	}
	for m := int64(1); m <= 5; m++ {
		checkNew(t, "CountByComponents", -77, func() []int64 {
			counts, _ := impl.CountByComponents(m)
			return counts
		})
	}
	for m := int64(1); m <= 4; m++ {
		checkRowsOfTable(t, "ComponentTable", func() [][]int64 { return componentsOf(t, m) })
	}
}
