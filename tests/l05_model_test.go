package tests

import (
	"slices"
	"testing"

	"loop.example/g01251/impl"
)

// This file holds a second, slow reading of chapter 5, against which the package is tested. It finds
// Chebyshev numbers as sums of binomial numbers, fusion from products of tables, and ways by the
// principle of reflection.

// pascals has, for each prime, the remainders of the binomial numbers of 0 to 1000.
var pascals = map[int64][][]int64{}

func pascal(p int64) [][]int64 {
	if pascals[p] == nil {
		rows := make([][]int64, impl.MaxIndex+1)
		for i := range rows {
			rows[i] = make([]int64, i+1)
			rows[i][0], rows[i][i] = 1, 1
			for k := 1; k < i; k++ {
				rows[i][k] = (rows[i-1][k-1] + rows[i-1][k]) % p
			}
		}
		pascals[p] = rows
	}
	return pascals[p]
}

// modelChebyshev returns f(k): the sum over all j of (-1)^j, binomial numbers of k - j over j, and
// c^(k - 2 j).
func modelChebyshev(p int64, c int64, k int64) int64 {
	rows := pascal(p)
	total, power := int64(0), int64(1)
	if k%2 == 1 {
		power = c
	}
	for j := k / 2; j >= 0; j-- {
		part := rows[k-j][j] * power
		if j%2 == 1 {
			part = -part
		}
		total = (total + part) % p
		power = power * c % p * c % p
	}
	return (total + p) % p
}

// modelZero returns the first zero.
func modelZero(p int64, c int64) int64 {
	for k := int64(1); ; k++ {
		if modelChebyshev(p, c, k) == 0 {
			return k
		}
	}
}

// modelInverse returns the number whose product with k has the remainder 1.
func modelInverse(p int64, k int64) int64 {
	for i := range p {
		if i*k%p == 1 {
			return i
		}
	}
	return 0
}

// looped is a diagram with a number of loops.
type looped struct {
	d     impl.Diagram
	loops int64
}

// knownProducts keeps products, since those with generators are asked for often.
var knownProducts = map[[2]impl.Diagram]looped{}

func knownProduct(d impl.Diagram, e impl.Diagram) looped {
	pair := [2]impl.Diagram{d, e}
	known, ok := knownProducts[pair]
	if !ok {
		known.d, known.loops = modelProduct(d, e)
		knownProducts[pair] = known
	}
	return known
}

// modelKnownProduct returns the product of x and y with products of diagrams that are kept.
func modelKnownProduct(x impl.Element, y impl.Element) modelSum {
	total := modelSum{}
	for _, a := range x.Terms {
		for _, b := range y.Terms {
			known := knownProduct(a.Diagram, b.Diagram)
			total[known.d] = (total[known.d] + a.Factor*b.Factor*modelLoops(x, known.loops)) % x.Prime
		}
	}
	return total
}

// isKilled reports whether all products of x with generators, from both sides, are 0.
func isKilled(x impl.Element) bool {
	for _, u := range modelGenerators(x) {
		for _, product := range []modelSum{modelKnownProduct(u, x), modelKnownProduct(x, u)} {
			for _, factor := range product {
				if factor != 0 {
					return false
				}
			}
		}
	}
	return true
}

// factorOf returns the factor of a diagram in x.
func factorOf(x impl.Element, d impl.Diagram) int64 {
	for _, term := range x.Terms {
		if term.Diagram == d {
			return term.Factor
		}
	}
	return 0
}

// modelIsProjection reports whether x has the coefficient 1 at the unit and is killed.
func modelIsProjection(x impl.Element) bool {
	return factorOf(x, modelUnit(x.Size)) == 1 && isKilled(x)
}

// modelProjections returns the projections of the sizes 1 to last, as far as they exist.
func modelProjections(p int64, c int64, last int64) []impl.Element {
	e := modelElement(p, c, 1, modelSum{modelUnit(1): 1})
	list := []impl.Element{e}
	for n := int64(1); n < last && modelChebyshev(p, c, n) != 0; n++ {
		wide := modelSum{}
		for _, term := range e.Terms {
			wide[modelInclude(term.Diagram)] = term.Factor
		}
		e = modelElement(p, c, n+1, wide)
		u := modelElement(p, c, n+1, modelSum{modelGenerator(n+1, n-1): 1})
		cut := modelKnownProduct(modelElement(p, c, n+1, modelKnownProduct(e, u)), e)
		ratio := modelChebyshev(p, c, n-1) * modelInverse(p, modelChebyshev(p, c, n)) % p
		e = modelElement(p, c, n+1, wide.plus(cut, -ratio))
		list = append(list, e)
	}
	return list
}

// modelKilled returns the element that has the coefficient 1 at the unit and is killed, and whether
// there is one. There is one for some sizes for which the projection of the chapter does not exist.
// It solves the equations that the products of all diagrams with generators set up.
func modelKilled(p int64, c int64, n int64) (impl.Element, bool) {
	list := slices.Clone(modelLists[n])
	slices.Reverse(list) // so that the unit is the last one
	rows := [][]int64{}
	for i := range n - 1 {
		u := modelGenerator(n, i)
		above, below := map[impl.Diagram][]int64{}, map[impl.Diagram][]int64{}
		for k, d := range list {
			for _, side := range []struct {
				rows    map[impl.Diagram][]int64
				product looped
			}{{above, knownProduct(u, d)}, {below, knownProduct(d, u)}} {
				if side.rows[side.product.d] == nil {
					side.rows[side.product.d] = make([]int64, len(list))
					rows = append(rows, side.rows[side.product.d])
				}
				side.rows[side.product.d][k] = modelPowerOf(p, c, side.product.loops)
			}
		}
	}
	found := modelSum{}
	last := len(list) - 1
	found[list[last]] = 1
	for k, row := range solvedRows(p, rows) {
		if k == last {
			return impl.Element{}, false
		}
		found[list[k]] = -row[last]
	}
	return modelElement(p, c, n, found), true
}

// solvedRows returns rows that set up the same equations; each has a place at which it has 1, and all
// others 0.
func solvedRows(p int64, rows [][]int64) map[int][]int64 {
	solved := map[int][]int64{}
	for _, row := range rows {
		for place, other := range solved {
			takeOff(p, row, other, row[place])
		}
		place := slices.IndexFunc(row, func(k int64) bool { return k != 0 })
		if place < 0 {
			continue
		}
		inverse := modelInverse(p, row[place])
		for k := range row {
			row[k] = row[k] * inverse % p
		}
		for _, other := range solved {
			takeOff(p, other, row, other[place])
		}
		solved[place] = row
	}
	return solved
}

// takeOff takes a multiple of another row off a row.
func takeOff(p int64, row []int64, other []int64, factor int64) {
	for k := range row {
		row[k] = ((row[k]-factor*other[k])%p + p) % p
	}
}

// modelFusion returns how often each label d comes out of a and b, for a first zero. The label 1
// leads from each label to those beside it, the label 0 changes nothing, and the table of each label
// is that of the one before times that of 1, less that of the one before that.
func modelFusion(zero int64) [][][]int64 {
	tables := make([][][]int64, zero)
	for a := range tables {
		tables[a] = make([][]int64, zero)
		for b := range tables[a] {
			row := make([]int64, zero)
			for d := range row {
				switch {
				case a == 0:
					row[d] = int64(b2i(b == d))
				case a == 1:
					row[d] = int64(b2i(b == d+1) + b2i(b+1 == d))
				default:
					if d > 0 {
						row[d] += tables[a-1][b][d-1]
					}
					if d+1 < len(row) {
						row[d] += tables[a-1][b][d+1]
					}
					row[d] -= tables[a-2][b][d]
				}
			}
			tables[a][b] = row
		}
	}
	return tables
}

// modelAdmissible reports whether labels are admissible, condition by condition.
func modelAdmissible(zero int64, a int64, b int64, d int64) bool {
	if (a+b+d)%2 != 0 {
		return false
	}
	if a > b+d || b > a+d || d > a+b {
		return false
	}
	return a+b+d <= 2*(zero-1)
}

// modelTheta returns the theta number of admissible labels.
func modelTheta(p int64, c int64, a int64, b int64, d int64) int64 {
	g := func(k int64) int64 {
		product := int64(1)
		for i := int64(1); i <= k; i++ {
			product = product * modelChebyshev(p, c, i) % p
		}
		return product
	}
	x, y, w := (a+b-d)/2, (b+d-a)/2, (d+a-b)/2
	above := g(x+y+w) * g(x-1) % p * g(y-1) % p * g(w-1) % p
	below := g(y+w-1) * g(w+x-1) % p * g(x+y-1) % p
	return above * modelInverse(p, below) % p
}

// binomial returns a binomial number, 0 outside of the triangle.
func binomial(n int64, k int64) int64 {
	if k < 0 || k > n {
		return 0
	}
	total := int64(1)
	for i := range k {
		total = total * (n - i) / (i + 1)
	}
	return total
}

// modelPaths returns the number of ways. Those without borders to k, and to all places to which an
// even number of reflections at -1 and z lead, are counted; those with an odd number are taken off.
func modelPaths(z int64, n int64, k int64) int64 {
	free := func(place int64) int64 {
		if (n+place)%2 != 0 {
			return 0
		}
		return binomial(n, (n+place)/2)
	}
	total := int64(0)
	for turn := int64(-n - 1); turn <= n+1; turn++ {
		total += free(k+2*turn*(z+1)) - free(-2-k+2*turn*(z+1))
	}
	return total
}

// forLoops calls use with primes and loop values: all of the least primes, and those at the ends, and
// some others, of the greater ones.
func forLoops(use func(p int64, c int64)) {
	for _, p := range primes {
		list := []int64{0, 1, 2, 3, p / 3, p / 2, p/2 + 1, p - 3, p - 2, p - 1}
		for c := range p {
			if p < 14 || slices.Contains(list, c) {
				use(p, c)
			}
		}
	}
}

// projected returns a projection.
func projected(t *testing.T, p int64, c int64, n int64) impl.Element {
	t.Helper()
	x, code := impl.ProjectionOf(p, c, n)
	if code != impl.ErrNone || !impl.IsElement(x) {
		t.Fatalf("ProjectionOf(%d, %d, %d) = %v, %d", p, c, n, x, code)
	}
	return x
}

// firstZeroOf returns a first zero.
func firstZeroOf(t *testing.T, p int64, c int64) int64 {
	t.Helper()
	zero, code := impl.FirstZero(p, c)
	if code != impl.ErrNone {
		t.Fatalf("FirstZero(%d, %d): code %d", p, c, code)
	}
	return zero
}

// fused returns the fusion of labels.
func fused(t *testing.T, p int64, c int64, a int64, b int64) []int64 {
	t.Helper()
	labels, code := impl.FusionOf(p, c, a, b)
	if code != impl.ErrNone {
		t.Fatalf("FusionOf(%d, %d, %d, %d): code %d", p, c, a, b, code)
	}
	return labels
}

// theta returns a theta number.
func theta(t *testing.T, p int64, c int64, a int64, b int64, d int64) int64 {
	t.Helper()
	number, code := impl.ThetaNumber(p, c, a, b, d)
	if code != impl.ErrNone {
		t.Fatalf("ThetaNumber(%d, %d, %d, %d, %d): code %d", p, c, a, b, d, code)
	}
	return number
}
