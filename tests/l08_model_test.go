package tests

import (
	"slices"
	"strings"
	"testing"

	"loop.example/g01251/impl"
)

// This file holds a second, slow reading of chapter 8, against which the package is tested. It finds
// components as parts of graphs, and meanders of orders in a list of all meanders.

// modelIsSystem takes arches away that have no points between their ends, until nothing is left.
func modelIsSystem(a string) bool {
	if len(a) < 2 || len(a) > 12 {
		return false
	}
	for strings.Contains(a, "()") {
		a = strings.ReplaceAll(a, "()", "")
	}
	return a == ""
}

// modelSystems has, for each number of arches, all systems, in order.
var modelSystems = func() [][]string {
	lists := make([][]string, 7)
	for m := 1; m <= 6; m++ {
		forTexts("()", 2*m, func(text string) {
			if modelIsSystem(text) {
				lists[m] = append(lists[m], text)
			}
		})
	}
	return lists
}()

// modelArches returns the other end of the arch of each point.
func modelArches(a string) []int {
	ends := make([]int, len(a))
	for j := range a {
		for i := range j {
			if modelIsLine(a[i : j+1]) {
				ends[i], ends[j] = j, i
			}
		}
	}
	return ends
}

// knownArches has the arches of all systems.
var knownArches = func() map[string][]int {
	known := map[string][]int{}
	for _, list := range modelSystems {
		for _, a := range list {
			known[a] = modelArches(a)
		}
	}
	return known
}()

// modelCurves returns the number of the components of two systems.
func modelCurves(a string, b string) int64 {
	g := make(modelGraph, len(a))
	for i := range a {
		g.join(i, knownArches[a][i])
		g.join(i, knownArches[b][i])
	}
	curves := int64(0)
	for i, k := range g.parts() {
		curves += int64(b2i(i == k))
	}
	return curves
}

// modelOrder takes as many steps as there are points, above and below in turn, and reports whether
// it meets no point twice.
func modelOrder(a string, b string) ([]int64, bool) {
	order := []int64{}
	point := 0
	for step := range a {
		if slices.Contains(order, int64(point)) {
			return nil, false
		}
		order = append(order, int64(point))
		if step%2 == 0 {
			point = knownArches[a][point]
		} else {
			point = knownArches[b][point]
		}
	}
	return order, true
}

// orderKey is an order that maps can have as a key.
type orderKey [12]int64

// keyed returns the key of a list of at most 12 numbers. Lists of different lengths that begin with
// 0, and have no second 0, have different keys.
func keyed(order []int64) orderKey {
	key := orderKey{}
	copy(key[:], order)
	return key
}

// modelMeanders leads from the orders of all meanders of at most six arches to their systems.
var modelMeanders = func() map[orderKey][2]string {
	meanders := map[orderKey][2]string{}
	forPairsOfSystems(6, func(a string, b string) {
		if order, ok := modelOrder(a, b); ok {
			meanders[keyed(order)] = [2]string{a, b}
		}
	})
	return meanders
}()

// modelTurn moves the last point, whose arch ends there, to the front, so that this arch begins there.
func modelTurn(a string) string {
	last := len(a) - 1
	other := knownArches[a][last]
	return "(" + a[:other] + ")" + a[other+1:last]
}

// modelIsIrreducible reads the definition as it stands.
func modelIsIrreducible(a string, b string) bool {
	for last := range a {
		for first := range last + 1 {
			isInside := func(point int) bool { return point >= first && point <= last }
			isClosed := true
			for point := range a {
				for _, end := range []int{knownArches[a][point], knownArches[b][point]} {
					if isInside(point) != isInside(end) {
						isClosed = false
					}
				}
			}
			if isClosed && last-first+1 < len(a) {
				return false
			}
		}
	}
	return true
}

// modelComponentTable returns the component table of m.
func modelComponentTable(m int64) [][]int64 {
	table := [][]int64{}
	for _, a := range modelSystems[m] {
		row := []int64{}
		for _, b := range modelSystems[m] {
			row = append(row, modelCurves(a, b))
		}
		table = append(table, row)
	}
	return table
}

// meanderDeterminant returns the determinant of m as a product of Chebyshev numbers, as Di Francesco,
// Golinelli and Guitter found it.
func meanderDeterminant(p int64, c int64, m int64) int64 {
	product := int64(1)
	for k := int64(1); k <= m; k++ {
		times := binomial(2*m, m-k) - 2*binomial(2*m, m-k-1) + binomial(2*m, m-k-2)
		product = product * modelPowerOf(p, modelChebyshev(p, c, k), times) % p
	}
	return product
}

// forPairsOfSystems calls use with all pairs of systems of equally many arches, at most last ones.
func forPairsOfSystems(last int, use func(a string, b string)) {
	for m := 1; m <= last; m++ {
		for _, a := range modelSystems[m] {
			for _, b := range modelSystems[m] {
				use(a, b)
			}
		}
	}
}

// badSystems returns texts that are no systems. (Some texts that are too long for half diagrams are
// systems.)
func badSystems() []string {
	return append(slices.DeleteFunc(badHalves(), modelIsSystem),
		"|", "||", "()|", "|()|", "(|)(|)", "(((", "((()", "()))", "())(", ")()(", "))((", ")(()", "())(()", "(()))(", "()()(", "(()())(", "()())()",
		"()()()()()()()", "((((((()))))))", "(((((())))))()", "()((((()))))()", "()()()()()()(", "()()()()()(", "((((((", "))))))((((((", "((((((((((((", "(((((()))))(", "(((((())))))\n", "()()()()()() ",
		"(()()()()()()()())", "()()()()()()()()", strings.Repeat("()", 262), "( )", "()\x00", "[()]", "(a)", "(())x", "()()\n()", "0", "00", "()1", "（）",
	)
}

// curved returns the number of the components of two systems.
func curved(t *testing.T, a string, b string) int64 {
	t.Helper()
	count, code := impl.ComponentsOfPair(a, b)
	if code != impl.ErrNone {
		t.Fatalf("ComponentsOfPair(%q, %q): code %d", a, b, code)
	}
	return count
}

// ordered returns the order of a meander.
func ordered(t *testing.T, a string, b string) []int64 {
	t.Helper()
	order, code := impl.OrderOfMeander(a, b)
	if code != impl.ErrNone {
		t.Fatalf("OrderOfMeander(%q, %q): code %d", a, b, code)
	}
	return order
}

// rotated returns the turn of a system.
func rotated(t *testing.T, a string) string {
	t.Helper()
	b, code := impl.TurnSystem(a)
	if code != impl.ErrNone || !impl.IsSystem(b) {
		t.Fatalf("TurnSystem(%q) = %q, %d", a, b, code)
	}
	return b
}

// irreducible returns whether two systems are irreducible.
func irreducible(t *testing.T, a string, b string) bool {
	t.Helper()
	yes, code := impl.IsIrreduciblePair(a, b)
	if code != impl.ErrNone {
		t.Fatalf("IsIrreduciblePair(%q, %q): code %d", a, b, code)
	}
	return yes
}

// componentsOf returns the component table of m.
func componentsOf(t *testing.T, m int64) [][]int64 {
	t.Helper()
	table, code := impl.ComponentTable(m)
	if code != impl.ErrNone {
		t.Fatalf("ComponentTable(%d): code %d", m, code)
	}
	return table
}
