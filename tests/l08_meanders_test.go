package tests

import (
	"slices"
	"strings"
	"testing"

	"loop.example/g01251/impl"
)

// Tests of chapter 8: what the functions return for systems and orders.

// meanders are the numbers of meanders of 0 to 6 arches.
var meanders = []int{0, 1, 2, 8, 42, 262, 1828}

func TestLimitOfArches(t *testing.T) {
	if impl.MaxArches != 6 {
		t.Errorf("MaxArches is %d", impl.MaxArches)
	}
	var counts [7]int
	for _, pair := range modelMeanders {
		counts[len(pair[0])/2]++
	}
	for m := 1; m <= 6; m++ {
		if int64(len(modelSystems[m])) != catalans[m] || counts[m] != meanders[m] {
			t.Errorf("the model has %d systems and %d meanders of %d arches", len(modelSystems[m]), counts[m], m)
		}
	}
}

// TestIsSystem goes through all texts of brackets of at most 15 letters, and shorter ones with other
// letters.
func TestIsSystem(t *testing.T) {
	check := func(text string) {
		if impl.IsSystem(text) != modelIsSystem(text) {
			t.Fatalf("IsSystem(%q) = %v", text, !modelIsSystem(text))
		}
	}
	for length := range 16 {
		forTexts("()", length, check)
	}
	for length := range 9 {
		forTexts("()|[", length, check)
	}
	for _, a := range []string{"()", "(())", "()()", "(()(()))", "((((()))))", "()()()()()()", "(((((())))))", "(()()())(())"} {
		if !impl.IsSystem(a) {
			t.Errorf("IsSystem(%q) = false", a)
		}
	}
}

// TestSystemsWithOtherLetters puts each other byte, and each system around it, into systems.
func TestSystemsWithOtherLetters(t *testing.T) {
	for letter := range 256 {
		if letter == '(' || letter == ')' {
			continue
		}
		other := string([]byte{byte(letter)})
		for _, a := range []string{"()", "(())()", "()(()())()()"} {
			for i := range a {
				for _, text := range []string{a[:i] + other + a[i+1:], a[:i] + other + a[i:], a[:i] + other + other + a[i:]} {
					if impl.IsSystem(text) {
						t.Errorf("IsSystem(%q) = true", text)
					}
				}
			}
		}
	}
}

func TestSystems(t *testing.T) {
	for m := int64(1); m <= 6; m++ {
		list, code := impl.SystemsOf(m)
		if !slices.Equal(list, modelSystems[m]) || code != impl.ErrNone || !slices.IsSortedFunc(list, strings.Compare) {
			t.Errorf("SystemsOf(%d) = %q, %d", m, list, code)
		}
	}
	for m, want := range map[int64][]string{
		1: {"()"},
		2: {"(())", "()()"},
		3: {"((()))", "(()())", "(())()", "()(())", "()()()"},
	} {
		if list, code := impl.SystemsOf(m); !slices.Equal(list, want) || code != impl.ErrNone {
			t.Errorf("SystemsOf(%d) = %q, %d", m, list, code)
		}
	}
}

// TestComponentsOfPairs goes through all pairs.
func TestComponentsOfPairs(t *testing.T) {
	forPairsOfSystems(6, func(a string, b string) {
		count := curved(t, a, b)
		if count != modelCurves(a, b) || count != curved(t, b, a) {
			t.Fatalf("ComponentsOfPair(%q, %q) = %d, not %d", a, b, count, modelCurves(a, b))
		}
		if arches := int64(len(a) / 2); count < 1 || count > arches || (count == arches) != (a == b) {
			t.Fatalf("ComponentsOfPair(%q, %q) = %d", a, b, count)
		}
	})
}

func TestComponentsOfPairsByHand(t *testing.T) {
	for _, x := range []struct {
		a, b  string
		count int64
	}{
		{"()", "()", 1}, {"()()", "(())", 1}, {"(())", "()()", 1}, {"()()", "()()", 2}, {"(())", "(())", 2},
		{"()()()", "((()))", 2}, {"()()()", "(()())", 1}, {"(())()", "()(())", 1}, {"(())()", "((()))", 1}, {"(())()", "()()()", 2}, {"(()())", "((()))", 2},
		{"()()()()", "((()()))", 3}, {"(((())))", "(())(())", 2}, {"()()()()()()", "(((((())))))", 3}, {"(()()()()())", "()()()()()()", 1}, {"(((((())))))", "(((((())))))", 6},
	} {
		if count := curved(t, x.a, x.b); count != x.count {
			t.Errorf("ComponentsOfPair(%q, %q) = %d, not %d", x.a, x.b, count, x.count)
		}
	}
}

// TestOrdersOfMeanders goes through all pairs, and checks the first half of P8.
func TestOrdersOfMeanders(t *testing.T) {
	forPairsOfSystems(6, func(a string, b string) {
		want, ok := modelOrder(a, b)
		order, code := impl.OrderOfMeander(a, b)
		if !ok {
			if len(order) != 0 || code != impl.ErrState || curved(t, a, b) == 1 {
				t.Fatalf("OrderOfMeander(%q, %q) = %v, %d", a, b, order, code)
			}
			return
		}
		if !slices.Equal(order, want) || code != impl.ErrNone || curved(t, a, b) != 1 {
			t.Fatalf("OrderOfMeander(%q, %q) = %v, %d, not %v", a, b, order, code, want)
		}
		first, second, code := impl.MeanderOfOrder(order)
		if first != a || second != b || code != impl.ErrNone {
			t.Fatalf("MeanderOfOrder(%v) = %q, %q, %d, not %q, %q", order, first, second, code, a, b)
		}
		// With both systems exchanged, the curve goes the other way.
		slices.Reverse(order[1:])
		if other := ordered(t, b, a); !slices.Equal(other, order) {
			t.Fatalf("OrderOfMeander(%q, %q) = %v, not %v", b, a, other, order)
		}
	})
}

func TestOrdersOfMeandersByHand(t *testing.T) {
	for _, x := range []struct {
		a, b  string
		order []int64
	}{
		{"()", "()", []int64{0, 1}},
		{"()()", "(())", []int64{0, 1, 2, 3}},
		{"(())", "()()", []int64{0, 3, 2, 1}},
		{"()()()", "(()())", []int64{0, 1, 2, 3, 4, 5}},
		{"(()())", "()()()", []int64{0, 5, 4, 3, 2, 1}},
		{"(())()", "()(())", []int64{0, 3, 4, 5, 2, 1}},
		{"()(())", "(())()", []int64{0, 1, 2, 5, 4, 3}},
		{"(())()", "((()))", []int64{0, 3, 2, 1, 4, 5}},
		{"()()()()()()", "(()()()()())", []int64{0, 1, 2, 3, 4, 5, 6, 7, 8, 9, 10, 11}},
	} {
		if order := ordered(t, x.a, x.b); !slices.Equal(order, x.order) {
			t.Errorf("OrderOfMeander(%q, %q) = %v, not %v", x.a, x.b, order, x.order)
		}
		if a, b, code := impl.MeanderOfOrder(x.order); a != x.a || b != x.b || code != impl.ErrNone {
			t.Errorf("MeanderOfOrder(%v) = %q, %q, %d", x.order, a, b, code)
		}
	}
}

// checkMeanderOfOrder looks a list that begins with 0, and has no number twice, up among the orders of
// all meanders, and reports whether it is there.
func checkMeanderOfOrder(t *testing.T, order []int64) bool {
	t.Helper()
	a, b, code := impl.MeanderOfOrder(order)
	want, ok := modelMeanders[keyed(order)]
	if ok && code != impl.ErrNone || !ok && code != impl.ErrState || a != want[0] || b != want[1] {
		t.Fatalf("MeanderOfOrder(%v) = %q, %q, %d, not %q", order, a, b, code, want)
	}
	return ok
}

// TestMeandersOfOrders goes through all lists of at most ten numbers.
func TestMeandersOfOrders(t *testing.T) {
	for m := 1; m <= 5; m++ {
		count := 0
		forPermutations(int64(2*m-1), func(list []int64) {
			order := []int64{0}
			for _, number := range list {
				order = append(order, number+1)
			}
			count += b2i(checkMeanderOfOrder(t, order))
		})
		if count != meanders[m] {
			t.Errorf("there are %d orders of meanders of %d arches", count, m)
		}
	}
}

// TestMeandersOfLongOrders goes through the orders of all meanders of six arches, and those in which
// two numbers are exchanged or some are turned round.
func TestMeandersOfLongOrders(t *testing.T) {
	count := 0
	for key, pair := range modelMeanders {
		if len(pair[0]) != 12 {
			continue
		}
		count += b2i(checkMeanderOfOrder(t, key[:]))
		for i := 1; i < 12; i++ {
			for j := i + 1; j < 12; j++ {
				exchanged, reversed := key, key
				exchanged[i], exchanged[j] = key[j], key[i]
				checkMeanderOfOrder(t, exchanged[:])
				slices.Reverse(reversed[i : j+1])
				checkMeanderOfOrder(t, reversed[:])
			}
		}
	}
	if count != meanders[6] {
		t.Errorf("there are %d orders of meanders of six arches", count)
	}
	s := sampler(8)
	for range 20000 {
		order := []int64{0, 1, 2, 3, 4, 5, 6, 7, 8, 9, 10, 11}
		for i := int64(2); i < 12; i++ {
			j := 1 + s.below(i)
			order[i], order[j] = order[j], order[i]
		}
		checkMeanderOfOrder(t, order)
	}
}

// TestTurns goes through all systems: turns, and as many as come back.
func TestTurnsOfSystems(t *testing.T) {
	for m := 1; m <= 6; m++ {
		met := map[string]bool{}
		for _, a := range modelSystems[m] {
			b := rotated(t, a)
			if b != modelTurn(a) {
				t.Fatalf("TurnSystem(%q) = %q, not %q", a, b, modelTurn(a))
			}
			for i, end := range knownArches[a] {
				if knownArches[b][(i+1)%len(a)] != (end+1)%len(a) {
					t.Fatalf("TurnSystem(%q) = %q", a, b)
				}
			}
			met[b] = true
			for range 2*m - 1 {
				b = rotated(t, b)
			}
			if b != a {
				t.Fatalf("%d turns of %q are %q", 2*m, a, b)
			}
		}
		if len(met) != len(modelSystems[m]) {
			t.Errorf("there are %d turns of %d systems", len(met), len(modelSystems[m]))
		}
	}
	for _, pair := range [][2]string{
		{"()", "()"}, {"()()", "(())"}, {"(())", "()()"}, {"((()))", "()(())"}, {"()(())", "(())()"}, {"(())()", "((()))"}, {"(()())", "()()()"}, {"()()()", "(()())"},
		{"(((((())))))", "()((((()))))"}, {"()()()()()()", "(()()()()())"}, {"(()()()()())", "()()()()()()"}, {"(())(())(())", "((())(()))()"},
	} {
		if b := rotated(t, pair[0]); b != pair[1] {
			t.Errorf("TurnSystem(%q) = %q, not %q", pair[0], b, pair[1])
		}
	}
}

// TestTurnsKeepComponents checks the second half of P8, for all pairs.
func TestTurnsKeepComponents(t *testing.T) {
	forPairsOfSystems(6, func(a string, b string) {
		if before, after := curved(t, a, b), curved(t, rotated(t, a), rotated(t, b)); before != after {
			t.Fatalf("%q and %q have %d components, and %d behind the turn", a, b, before, after)
		}
	})
}

func TestRainbows(t *testing.T) {
	for m := int64(1); m <= 6; m++ {
		a, code := impl.RainbowOf(m)
		if a != strings.Repeat("(", int(m))+strings.Repeat(")", int(m)) || code != impl.ErrNone {
			t.Errorf("RainbowOf(%d) = %q, %d", m, a, code)
		}
	}
}

// TestIrreduciblePairs goes through all pairs. The numbers of irreducible ones are known.
func TestIrreduciblePairs(t *testing.T) {
	var counts [7]int
	forPairsOfSystems(6, func(a string, b string) {
		yes := irreducible(t, a, b)
		if yes != modelIsIrreducible(a, b) {
			t.Fatalf("IsIrreduciblePair(%q, %q) = %v", a, b, yes)
		}
		counts[len(a)/2] += b2i(yes)
	})
	if counts != [7]int{0, 1, 2, 8, 46, 322, 2546} {
		t.Errorf("there are %v irreducible pairs", counts)
	}
}

func TestIrreduciblePairsByHand(t *testing.T) {
	for _, x := range []struct {
		a, b string
		yes  bool
	}{
		{"()", "()", true},
		{"()()", "(())", true},
		{"(())", "()()", true},
		{"()()", "()()", false},                 // the first two points, and the last two
		{"(())", "(())", false},                 // two points in the middle
		{"()()()", "()(())", false},             // the first two points, and all but these
		{"()()()", "(())()", false},             // the last two points, and all but these
		{"(())()", "(())()", false},             // the first four points, among others
		{"((()))", "(()())", false},             // all but the first and the last point
		{"()(())", "()(())", false},             // all but the first two points, among others
		{"()()()", "((()))", false},             // two points in the middle
		{"(()())", "()()()", true},              // a meander
		{"(())()", "()(())", true},              // a meander
		{"(())()", "((()))", true},              // a meander
		{"(()())()", "()()(())", true},          // a meander
		{"(((())))", "(())(())", true},          // two components, none of which has an interval of its own
		{"((()))()", "()((()))", true},          // two components again
		{"()(())()", "((()()))", false},         // four points in the middle, in one component
		{"()()()()", "(((())))", false},         // four points in the middle, in one component
		{"(()()()())", "(((())()))", false},     // two points in the middle, and all but the first and the last point
		{"((()()))()", "()(()())()", false},     // the last two points, and all but these
		{"(())()()()", "(())(()())", false},     // the first four points, among others
		{"(()()()()())", "()()()()()()", true},  // a meander
		{"((()()()()))", "(()()()()())", false}, // all but the first and the last point
		{"(((((())))))", "((((()()))))", false}, // all but the first and the last point, among others
		{"()(()()()())", "()()()()()()", false}, // the first two points, and all but these
		{"(()()()())()", "()()()()()()", false}, // the last two points, and all but these
		{"(())(())(())", "()(())(())()", true},  // a meander
		{"()()(()())()", "(())()()(())", false}, // the first four points, in one component, and all but these
	} {
		if yes := irreducible(t, x.a, x.b); yes != x.yes {
			t.Errorf("IsIrreduciblePair(%q, %q) = %v", x.a, x.b, yes)
		}
	}
}

func TestComponentTables(t *testing.T) {
	for m := int64(1); m <= 4; m++ {
		if table := componentsOf(t, m); !sameTable(table, modelComponentTable(m)) {
			t.Errorf("ComponentTable(%d) = %v", m, table)
		}
	}
	for m, want := range map[int64][][]int64{
		1: {{1}},
		2: {{2, 1}, {1, 2}},
		3: {{3, 2, 1, 1, 2}, {2, 3, 2, 2, 1}, {1, 2, 3, 1, 2}, {1, 2, 1, 3, 2}, {2, 1, 2, 2, 3}},
	} {
		if table := componentsOf(t, m); !sameTable(table, want) {
			t.Errorf("ComponentTable(%d) = %v, not %v", m, table, want)
		}
	}
}

// TestComponentDeterminants goes through all primes and numbers c. The determinants are those of
// Gram tables of twice as many points without open ones, where there are such tables.
func TestComponentDeterminants(t *testing.T) {
	forModuli(func(p int64, c int64) {
		for m := int64(1); m <= 4; m++ {
			got, code := impl.ComponentDeterminant(p, c, m)
			if want := meanderDeterminant(p, c, m); got != want || code != impl.ErrNone {
				t.Fatalf("ComponentDeterminant(%d, %d, %d) = %d, %d, not %d", p, c, m, got, code, want)
			}
			if m == 4 {
				continue
			}
			table := [][]int64{}
			for _, counts := range modelComponentTable(m) {
				row := []int64{}
				for _, count := range counts {
					row = append(row, modelPowerOf(p, c, count))
				}
				table = append(table, row)
			}
			gram, _ := impl.GramDeterminant(p, c, 2*m, 0)
			if want := modelDeterminant(p, table); got != want || got != gram {
				t.Fatalf("ComponentDeterminant(%d, %d, %d) = %d, not %d or %d", p, c, m, got, want, gram)
			}
		}
	})
}

func TestComponentDeterminantsByHand(t *testing.T) {
	for _, x := range [][4]int64{
		{7, 2, 2, 5}, {7, 3, 1, 3}, {7, 0, 1, 0}, {7, 1, 2, 0}, {7, 6, 2, 0}, {7, 3, 2, 2}, {2, 0, 1, 0}, {2, 0, 4, 0}, {2, 1, 1, 1}, {2, 1, 2, 0}, {3, 2, 2, 0}, {97, 96, 1, 96}, {97, 0, 3, 0}, {97, 2, 2, 12}, {97, 96, 3, 0}, {5, 2, 3, 4}, {97, 2, 3, 43},
	} {
		if got, code := impl.ComponentDeterminant(x[0], x[1], x[2]); got != x[3] || code != impl.ErrNone {
			t.Errorf("ComponentDeterminant(%d, %d, %d) = %d, %d, not %d", x[0], x[1], x[2], got, code, x[3])
		}
	}
}

// TestCountsByComponents compares counts with known ones, and with what the model counts.
func TestCountsByComponents(t *testing.T) {
	for m, want := range map[int64][]int64{
		1: {1}, 2: {2, 2}, 3: {8, 12, 5}, 4: {42, 84, 56, 14}, 5: {262, 640, 580, 240, 42},
	} {
		counts, code := impl.CountByComponents(m)
		if !slices.Equal(counts, want) || code != impl.ErrNone {
			t.Errorf("CountByComponents(%d) = %v, %d, not %v", m, counts, code, want)
		}
		sum := int64(0)
		met := make([]int64, m)
		for _, row := range modelComponentTable(m) {
			for _, count := range row {
				met[count-1]++
			}
		}
		for _, count := range counts {
			sum += count
		}
		if !slices.Equal(counts, met) || sum != catalans[m]*catalans[m] {
			t.Errorf("CountByComponents(%d) = %v, not %v", m, counts, met)
		}
	}
}

// TestCountsWithRainbows compares counts with known ones, and with what the model counts.
func TestCountsWithRainbows(t *testing.T) {
	for m, want := range []int64{0, 1, 1, 2, 4, 10, 24} {
		if m == 0 {
			continue
		}
		met := int64(0)
		for _, a := range modelSystems[m] {
			met += int64(b2i(modelCurves(a, modelSystems[m][0]) == 1))
		}
		if count, code := impl.CountWithRainbow(int64(m)); count != want || count != met || code != impl.ErrNone {
			t.Errorf("CountWithRainbow(%d) = %d, %d, not %d or %d", m, count, code, want, met)
		}
	}
}
