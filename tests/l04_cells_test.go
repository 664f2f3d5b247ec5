package tests

import (
	"slices"
	"strings"
	"testing"

	"loop.example/g01251/impl"
)

// Tests of chapter 4: what its functions return without errors.

func TestLimitOfHalves(t *testing.T) {
	if impl.MaxHalf != 6 {
		t.Errorf("MaxHalf = %d", impl.MaxHalf)
	}
}

// TestIsHalf goes through all texts of at most nine letters of half diagrams, and through those with
// another one.
func TestIsHalf(t *testing.T) {
	check := func(text string) {
		if got := impl.IsHalf(text); got != modelIsHalf(text) {
			t.Fatalf("IsHalf(%q) = %v", text, got)
		}
	}
	for length := range 10 {
		forTexts("()|", length, check)
	}
	for length := range 7 {
		forTexts("()|x", length, check)
	}
	for letter := range 256 {
		for _, around := range []string{"", "|", "(", ")", "()"} {
			check(string([]byte{byte(letter)}) + around)
			check(around + string([]byte{byte(letter)}))
		}
	}
	for _, a := range []string{"|", "()", "||", "(())", "|()|", "()|()", "||||||||", "()()()()", "(((())))", "|((()))|", "()||||()"} {
		if !impl.IsHalf(a) {
			t.Errorf("IsHalf(%q) = false", a)
		}
	}
	for _, a := range badHalves() {
		if impl.IsHalf(a) || modelIsHalf(a) {
			t.Errorf("IsHalf(%q) = true", a)
		}
	}
}

// TestHalves checks the second half of P12: there are as many half diagrams as are counted.
func TestHalves(t *testing.T) {
	forCells(8, func(n int64, k int64) {
		want := modelHalves[n][k]
		count, code := impl.CountHalves(n, k)
		if count != int64(len(want)) || code != impl.ErrNone {
			t.Errorf("CountHalves(%d, %d) = %d, %d, not %d", n, k, count, code, len(want))
		}
		list, code := impl.HalvesOf(n, k)
		if n > impl.MaxHalf {
			if len(list) != 0 || code != impl.ErrRange {
				t.Errorf("HalvesOf(%d, %d) = %q, %d", n, k, list, code)
			}
			return
		}
		if !slices.Equal(list, want) || int64(len(list)) != count || code != impl.ErrNone {
			t.Errorf("HalvesOf(%d, %d) = %q, %d, not %q", n, k, list, code, want)
		}
	})
}

func TestHalvesByHand(t *testing.T) {
	lists := []struct {
		n, k int64
		list []string
	}{
		{1, 1, []string{"|"}},
		{2, 0, []string{"()"}},
		{2, 2, []string{"||"}},
		{3, 1, []string{"()|", "|()"}},
		{3, 3, []string{"|||"}},
		{4, 0, []string{"(())", "()()"}},
		{4, 2, []string{"()||", "|()|", "||()"}},
		{5, 1, []string{"(())|", "()()|", "()|()", "|(())", "|()()"}},
		{6, 0, []string{"((()))", "(()())", "(())()", "()(())", "()()()"}},
		{6, 4, []string{"()||||", "|()|||", "||()||", "|||()|", "||||()"}},
		{6, 6, []string{"||||||"}},
	}
	for _, x := range lists {
		if list, code := impl.HalvesOf(x.n, x.k); !slices.Equal(list, x.list) || code != impl.ErrNone {
			t.Errorf("HalvesOf(%d, %d) = %q, %d", x.n, x.k, list, code)
		}
	}
	counts := map[int64][]int64{1: {1}, 2: {1, 1}, 3: {2, 1}, 4: {2, 3, 1}, 5: {5, 4, 1}, 6: {5, 9, 5, 1}, 7: {14, 14, 6, 1}, 8: {14, 28, 20, 7, 1}}
	for n, list := range counts {
		for i, want := range list {
			k := n%2 + 2*int64(i)
			if count, code := impl.CountHalves(n, k); count != want || code != impl.ErrNone {
				t.Errorf("CountHalves(%d, %d) = %d, %d, not %d", n, k, count, code, want)
			}
		}
	}
}

// TestCountsOfHalves checks that the pairs of half diagrams are as many as the diagrams.
func TestCountsOfHalves(t *testing.T) {
	for n := int64(1); n <= 8; n++ {
		pairs := int64(0)
		for k := n % 2; k <= n; k += 2 {
			count, _ := impl.CountHalves(n, k)
			pairs += count * count
		}
		if pairs != catalans[n] {
			t.Errorf("there are %d pairs of half diagrams of %d points", pairs, n)
		}
	}
}

// TestHalvesOfDiagrams checks the first half of P4: diagrams come back from their halves.
func TestHalvesOfDiagrams(t *testing.T) {
	for n := int64(1); n <= 8; n++ {
		for _, d := range modelLists[n] {
			a, first := impl.UpperHalf(d)
			b, second := impl.LowerHalf(d)
			if a != modelHalf(d, 0) || b != modelHalf(d, int(n)) || first != impl.ErrNone || second != impl.ErrNone {
				t.Fatalf("the halves of %v are %q, %q, codes %d, %d", d, a, b, first, second)
			}
			if !impl.IsHalf(a) || !impl.IsHalf(b) {
				t.Fatalf("%q or %q of %v is no half diagram", a, b, d)
			}
			if back, code := impl.DiagramOfHalves(a, b); back != d || code != impl.ErrNone {
				t.Fatalf("DiagramOfHalves(%q, %q) = %v, %d, not %v", a, b, back, code, d)
			}
		}
	}
}

func TestDiagramsOfHalves(t *testing.T) {
	for n := int64(1); n <= 8; n++ {
		met := map[impl.Diagram]bool{}
		for _, list := range modelHalves[n] {
			for _, a := range list {
				for _, b := range list {
					d, code := impl.DiagramOfHalves(a, b)
					if d != modelJoined(a, b) || !modelIsDiagram(d) || met[d] || code != impl.ErrNone {
						t.Fatalf("DiagramOfHalves(%q, %q) = %v, %d", a, b, d, code)
					}
					met[d] = true
					upper, _ := impl.UpperHalf(d)
					lower, _ := impl.LowerHalf(d)
					if upper != a || lower != b {
						t.Fatalf("the halves of DiagramOfHalves(%q, %q) are %q, %q", a, b, upper, lower)
					}
				}
			}
		}
		if int64(len(met)) != catalans[n] {
			t.Errorf("%d diagrams of the size %d have halves", len(met), n)
		}
	}
}

func TestHalvesOfDiagramsByHand(t *testing.T) {
	for _, x := range [][3]string{
		{"()", "|", "|"},
		{"(())", "||", "||"},
		{"()()", "()", "()"},
		{"()(())", "()|", "|()"},
		{"(()())", "|()", "|()"},
		{"(())()", "|()", "()|"}, // the upper points 1 and 2 and the lower points 0 and 1
		{"(())()()", "(())", "()()"},
		{"()()(())", "()()", "(())"},
		{"(()())()", "|()|", "()||"},
		{"()((()))", "()||", "||()"},
		{"(((((((())))))))", "||||||||", "||||||||"},
		{"()()()()(((())))", "()()()()", "(((())))"},
	} {
		d := parsed(t, x[0])
		a, _ := impl.UpperHalf(d)
		b, _ := impl.LowerHalf(d)
		if a != x[1] || b != x[2] {
			t.Errorf("the halves of %s are %q, %q", x[0], a, b)
		}
		if back, code := impl.DiagramOfHalves(x[1], x[2]); back != d || code != impl.ErrNone {
			t.Errorf("DiagramOfHalves(%q, %q) = %v, %d", x[1], x[2], back, code)
		}
	}
}

// TestPairings goes through all pairs, also of different numbers of open points.
func TestPairings(t *testing.T) {
	for n := int64(1); n <= 8; n++ {
		for _, a := range allHalves(n) {
			for _, b := range allHalves(n) {
				good, loops := modelPair(a, b)
				if got, count, code := impl.PairHalves(a, b); got != good || count != loops || code != impl.ErrNone {
					t.Fatalf("PairHalves(%q, %q) = %v, %d, %d, not %v, %d", a, b, got, count, code, good, loops)
				}
				if good && strings.Count(a, "|") != strings.Count(b, "|") {
					t.Fatalf("the pairing of %q and %q is not 0", a, b)
				}
			}
		}
	}
}

func TestPairingsByHand(t *testing.T) {
	for _, x := range []struct {
		a, b  string
		good  bool
		loops int64
	}{
		{"|", "|", true, 0},
		{"()", "()", true, 1},
		{"||", "||", true, 0},
		{"()", "||", false, 0},
		{"()|", "()|", true, 1},
		{"()|", "|()", true, 0},
		{"()|", "|||", false, 0},
		{"(())", "(())", true, 2},
		{"(())", "()()", true, 1},
		{"()()", "()()", true, 2},
		{"()()", "()||", false, 1},
		{"()()", "|()|", false, 0},
		{"()||", "||()", false, 0},
		{"()||", "|()|", true, 0},
		{"()||", "()||", true, 1},
		{"||||", "||||", true, 0},
		{"(())||", "(())()", false, 2},
		{"(())||", "()()||", true, 1},
		{"()()||", "(())||", true, 1},
		{"()|()|", "()||()", true, 1},
		{"()|()|", "|()()|", true, 1},
		{"()|()|", "|()|()", true, 0},
		{"()()()()", "()()()()", true, 4},
		{"()()()()", "(()()())", true, 1},
		{"()()()()", "(((())))", true, 2},
		{"()()()||", "()()()()", false, 3},
		{"||||||||", "||||||()", false, 0},
	} {
		for _, pair := range [][2]string{{x.a, x.b}, {x.b, x.a}} {
			if good, loops, code := impl.PairHalves(pair[0], pair[1]); good != x.good || loops != x.loops || code != impl.ErrNone {
				t.Errorf("PairHalves(%q) = %v, %d, %d", pair, good, loops, code)
			}
		}
	}
}

// TestActions goes through all diagrams and half diagrams of a size.
func TestActions(t *testing.T) {
	for n := int64(1); n <= 8; n++ {
		for _, d := range modelLists[n] {
			for _, a := range allHalves(n) {
				want, loops := modelAct(d, a)
				if got, count, code := impl.ActOnHalf(d, a); got != want || count != loops || code != impl.ErrNone {
					t.Fatalf("ActOnHalf(%v, %q) = %q, %d, %d, not %q, %d", d, a, got, count, code, want, loops)
				}
			}
		}
	}
}

func TestActionsByHand(t *testing.T) {
	for _, x := range []struct {
		text, a, want string
		loops         int64
	}{
		{"()", "|", "|", 0},
		{"(())", "()", "()", 0},
		{"(())", "||", "||", 0},
		{"()()", "()", "()", 1},
		{"()()", "||", "", 0},
		{"()(())", "()|", "()|", 0}, // the arc of the lower points 1 and 2 leads to the open point
		{"()(())", "|()", "()|", 1},
		{"()(())", "|||", "", 0},
		{"(())()", "()|", "|()", 1},
		{"(())()", "|()", "|()", 0},
		{"()()(())", "()()", "()()", 1},
		{"()()(())", "(())", "()()", 2},
		{"()()(())", "||()", "", 0},
		{"()()()()", "()||", "", 1},
		{"()()()()", "||()", "", 1},
		{"()()()()", "|()|", "", 0},
		{"()()()()", "||||", "", 0},
		{"()()()()", "()()", "()()", 2},
		{"()()()()()()()()", "()()()||", "", 3},
		{"()()()()()()()()", "()()()()", "()()()()", 4},
		{"(((((((())))))))", "()|()|()", "()|()|()", 0},
	} {
		got, loops, code := impl.ActOnHalf(parsed(t, x.text), x.a)
		if got != x.want || loops != x.loops || code != impl.ErrNone {
			t.Errorf("ActOnHalf(%s, %q) = %q, %d, %d", x.text, x.a, got, loops, code)
		}
	}
}

// someModuli are primes and loop values, among them the ends of their ranges.
var someModuli = [][2]int64{{2, 0}, {2, 1}, {3, 0}, {3, 2}, {5, 3}, {7, 1}, {7, 3}, {31, 30}, {97, 0}, {97, 1}, {97, 2}, {97, 96}}

// TestCellTables goes through all diagrams of at most six points a side.
func TestCellTables(t *testing.T) {
	for _, kind := range someModuli {
		p, c := kind[0], kind[1]
		forCells(6, func(n int64, k int64) {
			for _, d := range modelLists[n] {
				want := modelCells(p, c, d, k)
				if got := celled(t, p, c, d, k); !sameTable(got, want) {
					t.Fatalf("CellTable(%d, %d, %v, %d) = %v, not %v", p, c, d, k, got, want)
				}
				sum := int64(0)
				for i := range want {
					sum += want[i][i]
				}
				if got, code := impl.CellCharacter(p, c, d, k); got != sum%p || code != impl.ErrNone {
					t.Fatalf("CellCharacter(%d, %d, %v, %d) = %d, %d, not %d", p, c, d, k, got, code, sum%p)
				}
			}
		})
	}
}

func TestCellTablesByHand(t *testing.T) {
	for _, x := range []struct {
		p, c  int64
		text  string
		k     int64
		table [][]int64
		sum   int64
	}{
		{7, 3, "()", 1, [][]int64{{1}}, 1},
		{7, 3, "()()", 0, [][]int64{{3}}, 3},
		{7, 0, "()()", 0, [][]int64{{0}}, 0},
		{7, 3, "()()", 2, [][]int64{{0}}, 0},
		{7, 0, "(())", 0, [][]int64{{1}}, 1}, // no loops, so that a loop value of 0 does nothing
		{2, 0, "(())", 2, [][]int64{{1}}, 1},
		{7, 3, "()(())", 1, [][]int64{{1, 0}, {3, 0}}, 1},
		{7, 3, "(())()", 1, [][]int64{{0, 3}, {0, 1}}, 1},
		{7, 3, "(()())", 1, [][]int64{{0, 1}, {0, 3}}, 3},
		{7, 0, "(()())", 1, [][]int64{{0, 1}, {0, 0}}, 0},
		{2, 1, "(()())", 1, [][]int64{{0, 1}, {0, 1}}, 1},
		{7, 3, "(()())", 3, [][]int64{{0}}, 0},
		{7, 3, "((()))", 1, [][]int64{{1, 0}, {0, 1}}, 2},
		{2, 1, "((()))", 1, [][]int64{{1, 0}, {0, 1}}, 0},
		{5, 3, "()()()()", 0, [][]int64{{0, 3}, {0, 4}}, 4},
		{97, 96, "()()()()", 0, [][]int64{{0, 96}, {0, 1}}, 1},
		{5, 3, "()()()()", 2, [][]int64{{0, 0, 0}, {0, 0, 0}, {0, 0, 0}}, 0},
		{5, 3, "()((()))", 2, [][]int64{{0, 0, 0}, {1, 0, 0}, {3, 0, 0}}, 0},
	} {
		d := parsed(t, x.text)
		if got := celled(t, x.p, x.c, d, x.k); !sameTable(got, x.table) {
			t.Errorf("CellTable(%d, %d, %s, %d) = %v, not %v", x.p, x.c, x.text, x.k, got, x.table)
		}
		if sum, code := impl.CellCharacter(x.p, x.c, d, x.k); sum != x.sum || code != impl.ErrNone {
			t.Errorf("CellCharacter(%d, %d, %s, %d) = %d, %d", x.p, x.c, x.text, x.k, sum, code)
		}
	}
}

// checkTablesOfProducts checks that the table of a product, times loops, is the product of the
// tables in the reverse order, and that characters of products do not depend on the order.
func checkTablesOfProducts(t *testing.T, p int64, c int64, d impl.Diagram, e impl.Diagram) {
	t.Helper()
	de, loops, _ := impl.MultiplyDiagrams(d, e)
	ed, others, _ := impl.MultiplyDiagrams(e, d)
	for k := d.Size % 2; k <= d.Size; k += 2 {
		want := modelTimes(p, celled(t, p, c, e, k), celled(t, p, c, d, k))
		if got := modelScaled(p, modelPowerOf(p, c, loops), celled(t, p, c, de, k)); !sameTable(got, want) {
			t.Fatalf("the table of the product of %v and %v for %d, %d and %d is %v, not %v", d, e, p, c, k, got, want)
		}
		a, _ := impl.CellCharacter(p, c, de, k)
		b, _ := impl.CellCharacter(p, c, ed, k)
		if a*modelPowerOf(p, c, loops)%p != b*modelPowerOf(p, c, others)%p {
			t.Fatalf("characters of the products of %v and %v for %d, %d and %d: %d, %d", d, e, p, c, k, a, b)
		}
	}
}

// TestTablesOfProducts checks the first half of P13, for all pairs of small diagrams and some
// greater ones.
func TestTablesOfProducts(t *testing.T) {
	for _, kind := range someModuli {
		for n := int64(1); n <= 4; n++ {
			for _, d := range modelLists[n] {
				for _, e := range modelLists[n] {
					checkTablesOfProducts(t, kind[0], kind[1], d, e)
				}
			}
		}
		s := sampler(kind[0]*100 + kind[1])
		for n := int64(5); n <= 6; n++ {
			for range 300 {
				d, e := modelLists[n][s.below(catalans[n])], modelLists[n][s.below(catalans[n])]
				checkTablesOfProducts(t, kind[0], kind[1], d, e)
			}
		}
	}
}

func TestTablesOfUnits(t *testing.T) {
	for _, kind := range someModuli {
		forCells(6, func(n int64, k int64) {
			count, _ := impl.CountHalves(n, k)
			for i, row := range celled(t, kind[0], kind[1], modelUnit(n), k) {
				for j, number := range row {
					if number != int64(b2i(i == j)) {
						t.Fatalf("the unit of %d has %d at %d, %d", n, number, i, j)
					}
				}
			}
			if sum, code := impl.CellCharacter(kind[0], kind[1], modelUnit(n), k); sum != count%kind[0] || code != impl.ErrNone {
				t.Fatalf("the character of the unit of %d for %d is %d, %d", n, k, sum, code)
			}
		})
	}
}

// TestGramTables goes through all primes and loop values: tables, determinants, ranks and radicals.
func TestGramTables(t *testing.T) {
	forModuli(func(p int64, c int64) {
		forCells(6, func(n int64, k int64) {
			table := gram(t, p, c, n, k)
			halves := modelHalves[n][k]
			for i, a := range halves {
				for j, b := range halves {
					good, loops := modelPair(a, b)
					want := int64(b2i(good)) * modelPowerOf(p, c, loops)
					if len(table) != len(halves) || len(table[i]) != len(halves) || table[i][j] != want || table[j][i] != want {
						t.Fatalf("GramTable(%d, %d, %d, %d) = %v", p, c, n, k, table)
					}
				}
			}
			checkRadical(t, [4]int64{p, c, n, k}, table)
		})
	})
}

// checkRadical checks what is told of a Gram table. A reduced list of as many rows of the radical as
// its dimension says is the list of the radical, since there is only one.
func checkRadical(t *testing.T, kind [4]int64, table [][]int64) {
	t.Helper()
	p, want := kind[0], modelRank(kind[0], table)
	determinant, first := impl.GramDeterminant(p, kind[1], kind[2], kind[3])
	if determinant != modelDeterminant(p, table) || first != impl.ErrNone || (determinant == 0) != (want < len(table)) {
		t.Fatalf("GramDeterminant(%v) = %d, %d, not %d", kind, determinant, first, modelDeterminant(p, table))
	}
	rank, second := impl.GramRank(p, kind[1], kind[2], kind[3])
	if rank != int64(want) || second != impl.ErrNone {
		t.Fatalf("GramRank(%v) = %d, %d, not %d", kind, rank, second, want)
	}
	radical, third := impl.RadicalOf(p, kind[1], kind[2], kind[3])
	if len(radical) != len(table)-want || third != impl.ErrNone || !isReducedList(p, radical) {
		t.Fatalf("RadicalOf(%v) = %v, %d", kind, radical, third)
	}
	for _, row := range radical {
		if len(row) != len(table) {
			t.Fatalf("RadicalOf(%v) = %v", kind, radical)
		}
		for _, sum := range modelTimes(p, [][]int64{row}, table)[0] {
			if sum != 0 {
				t.Fatalf("RadicalOf(%v) = %v, but the table is %v", kind, radical, table)
			}
		}
	}
}

func TestGramTablesByHand(t *testing.T) {
	for _, x := range []struct {
		p, c, n, k  int64
		table       [][]int64
		determinant int64
		rank        int64
		radical     [][]int64
	}{
		{7, 3, 1, 1, [][]int64{{1}}, 1, 1, nil},
		{7, 3, 2, 0, [][]int64{{3}}, 3, 1, nil},
		{7, 0, 2, 0, [][]int64{{0}}, 0, 0, [][]int64{{1}}},
		{7, 0, 2, 2, [][]int64{{1}}, 1, 1, nil},
		{7, 3, 3, 1, [][]int64{{3, 1}, {1, 3}}, 1, 2, nil},
		{7, 0, 3, 1, [][]int64{{0, 1}, {1, 0}}, 6, 2, nil},
		{7, 1, 3, 1, [][]int64{{1, 1}, {1, 1}}, 0, 1, [][]int64{{1, 6}}},
		{7, 6, 3, 1, [][]int64{{6, 1}, {1, 6}}, 0, 1, [][]int64{{1, 1}}},
		{2, 1, 3, 1, [][]int64{{1, 1}, {1, 1}}, 0, 1, [][]int64{{1, 1}}},
		{2, 0, 3, 1, [][]int64{{0, 1}, {1, 0}}, 1, 2, nil},
		{97, 3, 4, 0, [][]int64{{9, 3}, {3, 9}}, 72, 2, nil},
		{97, 0, 4, 0, [][]int64{{0, 0}, {0, 0}}, 0, 0, [][]int64{{1, 0}, {0, 1}}},
		{97, 1, 4, 0, [][]int64{{1, 1}, {1, 1}}, 0, 1, [][]int64{{1, 96}}},
		{97, 3, 4, 2, [][]int64{{3, 1, 0}, {1, 3, 1}, {0, 1, 3}}, 21, 3, nil},
		{97, 0, 4, 2, [][]int64{{0, 1, 0}, {1, 0, 1}, {0, 1, 0}}, 0, 2, [][]int64{{1, 0, 96}}},
		{7, 3, 4, 2, [][]int64{{3, 1, 0}, {1, 3, 1}, {0, 1, 3}}, 0, 2, [][]int64{{1, 4, 1}}}, // 3 is a root of 2 by 7
		{97, 96, 6, 6, [][]int64{{1}}, 1, 1, nil},
	} {
		if got := gram(t, x.p, x.c, x.n, x.k); !sameTable(got, x.table) {
			t.Errorf("GramTable(%d, %d, %d, %d) = %v", x.p, x.c, x.n, x.k, got)
		}
		determinant, first := impl.GramDeterminant(x.p, x.c, x.n, x.k)
		rank, second := impl.GramRank(x.p, x.c, x.n, x.k)
		radical, third := impl.RadicalOf(x.p, x.c, x.n, x.k)
		if determinant != x.determinant || rank != x.rank || !sameTable(radical, x.radical) || first != impl.ErrNone || second != impl.ErrNone || third != impl.ErrNone {
			t.Errorf("for %d, %d, %d, %d: determinant %d, rank %d, radical %v, codes %d, %d, %d", x.p, x.c, x.n, x.k, determinant, rank, radical, first, second, third)
		}
	}
}

// TestDeterminants compares with what the determinants are known to be as products.
func TestDeterminants(t *testing.T) {
	forModuli(func(p int64, c int64) {
		square := c * c % p
		f2, f3, f4, f5 := square-1, (square-2)*c, square*square-3*square+1, (square*square-4*square+3)%p*c
		for _, x := range []struct{ n, k, want int64 }{
			{2, 0, c}, {3, 1, f2}, {4, 2, f3}, {5, 3, f4}, {6, 4, f5},
			{4, 0, square * f2}, {6, 0, modelPowerOf(p, c, 5) * (modelPowerOf(p, f2, 4) * (square - 2) % p)},
		} {
			want := (x.want%p + p) % p
			if got, code := impl.GramDeterminant(p, c, x.n, x.k); got != want || code != impl.ErrNone {
				t.Fatalf("GramDeterminant(%d, %d, %d, %d) = %d, %d, not %d", p, c, x.n, x.k, got, code, want)
			}
		}
	})
}
