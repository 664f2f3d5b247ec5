package tests

import (
	"slices"
	"strings"
	"testing"

	"loop.example/g01251/impl"
)

// Tests of chapter 1: what the functions return for valid arguments.

func TestCodesAndLimits(t *testing.T) {
	codes := []int64{impl.ErrNone, impl.ErrInvalid, impl.ErrRange, impl.ErrLimit, impl.ErrNotFound, impl.ErrState, impl.ErrSyntax}
	for i, code := range codes {
		if code != int64(i) {
			t.Errorf("code %d is %d", i, code)
		}
	}
	if impl.MaxSize != 8 || impl.MaxListed != 6 {
		t.Errorf("limits are %d and %d", impl.MaxSize, impl.MaxListed)
	}
}

func TestIsDiagramOfPairings(t *testing.T) {
	for n := 1; n <= 5; n++ {
		count := int64(0)
		modelPairings(n, func(d impl.Diagram) {
			got, want := impl.IsDiagram(d), modelIsDiagram(d)
			if got != want {
				t.Fatalf("IsDiagram(%v) = %v", d, got)
			}
			count += int64(b2i(got))
		})
		if count != catalans[n] {
			t.Errorf("size %d has %d diagrams", n, count)
		}
	}
}

func TestIsDiagramOfChangedDiagrams(t *testing.T) {
	for _, d := range someDiagrams() {
		if !impl.IsDiagram(d) || !modelIsDiagram(d) {
			t.Fatalf("%v is no diagram", d)
		}
		for i := range d.Mate {
			for _, mate := range []int{0, 1, 2, 7, 8, 15, 16, 17, 127, 128, 254, 255} {
				x := d
				x.Mate[i] = byte(mate)
				if impl.IsDiagram(x) != (x == d) {
					t.Fatalf("IsDiagram(%v) = %v", x, x != d)
				}
			}
		}
		for _, size := range []int64{d.Size - 1, d.Size + 1, -d.Size, d.Size + 256, 0} {
			if x := (impl.Diagram{Size: size, Mate: d.Mate}); impl.IsDiagram(x) {
				t.Fatalf("IsDiagram(%v) = true", x)
			}
		}
	}
}

func TestTexts(t *testing.T) {
	for _, d := range someDiagrams() {
		text, code := impl.DiagramText(d)
		if text != modelText(d) || code != impl.ErrNone {
			t.Fatalf("DiagramText(%v) = %q, %d", d, text, code)
		}
		if x, code := impl.ParseDiagram(text); x != d || code != impl.ErrNone {
			t.Fatalf("ParseDiagram(%q) = %v, %d", text, x, code)
		}
	}
	byHand := map[string]impl.Diagram{
		"()":     {Size: 1, Mate: [16]byte{1, 0}},
		"(())":   {Size: 2, Mate: [16]byte{2, 3, 0, 1}},
		"()()":   {Size: 2, Mate: [16]byte{1, 0, 3, 2}},
		"()(())": {Size: 3, Mate: [16]byte{1, 0, 3, 2, 5, 4}},
		"(()())": {Size: 3, Mate: [16]byte{3, 2, 1, 0, 5, 4}},
		"(())()": {Size: 3, Mate: [16]byte{5, 2, 1, 4, 3, 0}},
	}
	for text, d := range byHand {
		if got, code := impl.DiagramText(d); got != text || code != impl.ErrNone {
			t.Errorf("DiagramText(%v) = %q, %d", d, got, code)
		}
		if got, code := impl.ParseDiagram(text); got != d || code != impl.ErrNone {
			t.Errorf("ParseDiagram(%q) = %v, %d", text, got, code)
		}
	}
}

// TestTextsThatAreNone parses all texts of at most seven of four letters.
func TestTextsThatAreNone(t *testing.T) {
	var try func(text string, rest int)
	try = func(text string, rest int) {
		balanced := strings.Count(text, "(")+strings.Count(text, ")") == len(text) && len(text) > 0
		for i := range text {
			balanced = balanced && strings.Count(text[:i], "(") >= strings.Count(text[:i], ")")
		}
		balanced = balanced && strings.Count(text, "(") == strings.Count(text, ")")
		d, code := impl.ParseDiagram(text)
		if balanced != (code == impl.ErrNone) || !balanced && (code != impl.ErrSyntax || d != impl.Diagram{}) {
			t.Fatalf("ParseDiagram(%q) = %v, %d", text, d, code)
		}
		if rest > 0 {
			for _, letter := range []string{"(", ")", " ", "["} {
				try(text+letter, rest-1)
			}
		}
	}
	try("", 7)
}

func TestUnits(t *testing.T) {
	for n := int64(1); n <= 8; n++ {
		d, code := impl.UnitDiagram(n)
		text := strings.Repeat("(", int(n)) + strings.Repeat(")", int(n))
		if d != parsed(t, text) || code != impl.ErrNone {
			t.Errorf("UnitDiagram(%d) = %v, %d", n, d, code)
		}
		for i := range n {
			if int64(d.Mate[i]) != n+i {
				t.Errorf("UnitDiagram(%d) = %v", n, d)
			}
		}
	}
}

func TestGenerators(t *testing.T) {
	for n := int64(2); n <= 8; n++ {
		for i := range n - 1 {
			d, code := impl.GeneratorDiagram(n, i)
			if !modelIsDiagram(d) || code != impl.ErrNone {
				t.Fatalf("GeneratorDiagram(%d, %d) = %v, %d", n, i, d, code)
			}
			for k := range n {
				upper, lower := n+k, k
				if k == i {
					upper, lower = k+1, n+k+1
				} else if k == i+1 {
					upper, lower = k-1, n+k-1
				}
				if int64(d.Mate[k]) != upper || int64(d.Mate[n+k]) != lower {
					t.Fatalf("GeneratorDiagram(%d, %d) = %v", n, i, d)
				}
			}
		}
	}
}

// TestGeneratorRelations checks the rules of the algebra for all pairs of generators.
func TestGeneratorRelations(t *testing.T) {
	for n := int64(2); n <= 8; n++ {
		for i := range n - 1 {
			d, _ := impl.GeneratorDiagram(n, i)
			if x, loops, code := impl.MultiplyDiagrams(d, d); x != d || loops != 1 || code != impl.ErrNone {
				t.Errorf("square of generator %d of %d is %v, %d, %d", i, n, x, loops, code)
			}
			for j := range n - 1 {
				e, _ := impl.GeneratorDiagram(n, j)
				de, loops, _ := impl.MultiplyDiagrams(d, e)
				ed, _, _ := impl.MultiplyDiagrams(e, d)
				ded, _, _ := impl.MultiplyDiagrams(de, d)
				near := j == i-1 || j == i+1
				if near && (loops != 0 || ded != d || de == ed) || !near && i != j && (loops != 0 || de != ed) {
					t.Errorf("generators %d and %d of %d: %v, %v", i, j, n, de, ed)
				}
			}
		}
	}
}

func TestProducts(t *testing.T) {
	list := someDiagrams()
	for _, d := range list {
		one, _ := impl.UnitDiagram(d.Size)
		for _, e := range list {
			if d.Size != e.Size {
				continue
			}
			want, wanted := modelProduct(d, e)
			x, loops, code := impl.MultiplyDiagrams(d, e)
			if x != want || loops != wanted || code != impl.ErrNone || !modelIsDiagram(x) {
				t.Fatalf("MultiplyDiagrams(%v, %v) = %v, %d, %d", d, e, x, loops, code)
			}
		}
		left, first, _ := impl.MultiplyDiagrams(one, d)
		right, second, _ := impl.MultiplyDiagrams(d, one)
		if left != d || right != d || first != 0 || second != 0 {
			t.Fatalf("products of the unit and %v are %v and %v", d, left, right)
		}
	}
}

func TestProductsByHand(t *testing.T) {
	cases := []struct {
		d, e, product string
		loops         int64
	}{
		{"()", "()", "()", 0},
		{"()()", "()()", "()()", 1},
		{"()(())", "()(())", "()(())", 0},
		{"()(())", "(())()", "()()()", 1},
		{"(())()", "()(())", "(()())", 1},
		{"()()()()", "()()()()", "()()()()", 2},
		{"(())(())", "(())(())", "(())(())", 2},
		{"()()(())", "(())()()", "()()()()", 2},
		{"()()()()", "(())(())", "()()(())", 1},
		{"()()()()()()()()", "()()()()()()()()", "()()()()()()()()", 4},
	}
	for _, c := range cases {
		x, loops, code := impl.MultiplyDiagrams(parsed(t, c.d), parsed(t, c.e))
		if modelText(x) != c.product || loops != c.loops || code != impl.ErrNone {
			t.Errorf("MultiplyDiagrams(%q, %q) = %q, %d, %d", c.d, c.e, modelText(x), loops, code)
		}
	}
}

func associative(t *testing.T, d impl.Diagram, e impl.Diagram, f impl.Diagram) {
	t.Helper()
	de, a, _ := impl.MultiplyDiagrams(d, e)
	left, b, _ := impl.MultiplyDiagrams(de, f)
	ef, x, _ := impl.MultiplyDiagrams(e, f)
	right, y, _ := impl.MultiplyDiagrams(d, ef)
	if left != right || a+b != x+y {
		t.Fatalf("%v, %v, %v: %v with %d loops, %v with %d", d, e, f, left, a+b, right, x+y)
	}
}

func TestProductsAreAssociative(t *testing.T) {
	for n := int64(1); n <= 8; n++ {
		list := modelList(n)
		if n <= 4 {
			for _, d := range list {
				for _, e := range list {
					for _, f := range list {
						associative(t, d, e, f)
					}
				}
			}
			continue
		}
		seed := n
		pick := func() impl.Diagram {
			seed = (seed*1103515245 + 12345) % (1 << 31)
			return list[seed/7%int64(len(list))]
		}
		for range 500 {
			associative(t, pick(), pick(), pick())
		}
	}
}

func TestFlips(t *testing.T) {
	list := someDiagrams()
	for _, d := range list {
		want := modelMoved(d, func(n int, i int) int { return (i + n) % (2 * n) })
		x, code := impl.FlipDiagram(d)
		if x != want || code != impl.ErrNone {
			t.Fatalf("FlipDiagram(%v) = %v, %d", d, x, code)
		}
		if back, _ := impl.FlipDiagram(x); back != d {
			t.Fatalf("the flip of %v does not lead back", d)
		}
	}
	for _, d := range list {
		for _, e := range list {
			if d.Size != e.Size {
				continue
			}
			de, loops, _ := impl.MultiplyDiagrams(d, e)
			flipped, _ := impl.FlipDiagram(de)
			first, _ := impl.FlipDiagram(e)
			second, _ := impl.FlipDiagram(d)
			x, same, _ := impl.MultiplyDiagrams(first, second)
			if x != flipped || loops != same {
				t.Fatalf("the flip of the product of %v and %v is %v", d, e, flipped)
			}
		}
	}
}

func TestMirrors(t *testing.T) {
	for _, d := range someDiagrams() {
		want := modelMoved(d, func(n int, i int) int {
			if i < n {
				return n - 1 - i
			}
			return 2*n - 1 - (i - n)
		})
		x, code := impl.MirrorDiagram(d)
		if x != want || code != impl.ErrNone {
			t.Fatalf("MirrorDiagram(%v) = %v, %d", d, x, code)
		}
		if back, _ := impl.MirrorDiagram(x); back != d {
			t.Fatalf("the mirror of %v does not lead back", d)
		}
	}
}

func TestTurns(t *testing.T) {
	for _, d := range someDiagrams() {
		want := modelMoved(d, func(n int, i int) int {
			place := (modelPlace(n, i) + 1) % (2 * n)
			for point := range 2 * n {
				if modelPlace(n, point) == place {
					return point
				}
			}
			return -1
		})
		x, code := impl.TurnDiagram(d)
		if x != want || code != impl.ErrNone {
			t.Fatalf("TurnDiagram(%v) = %v, %d", d, x, code)
		}
		x = d
		for range 2 * d.Size {
			if x, code = impl.TurnDiagram(x); !impl.IsDiagram(x) || code != impl.ErrNone {
				t.Fatalf("TurnDiagram leads to %v, %d", x, code)
			}
		}
		if x != d {
			t.Fatalf("%v comes back as %v", d, x)
		}
	}
	for text, turned := range map[string]string{"()": "()", "(())": "()()", "()()": "(())", "()(())": "(())()", "(()())": "()()()", "((()))": "()(())"} {
		x, code := impl.TurnDiagram(parsed(t, text))
		if modelText(x) != turned || code != impl.ErrNone {
			t.Errorf("TurnDiagram(%q) = %q, %d", text, modelText(x), code)
		}
	}
}

func TestUnions(t *testing.T) {
	list := someDiagrams()
	count := 0
	for _, d := range list {
		for _, e := range list {
			n, m := int(d.Size), int(e.Size)
			if n+m > 8 {
				continue
			}
			want := impl.Diagram{Size: int64(n + m)}
			for i := range n {
				want.Mate[i] = d.Mate[i] + byte(m*b2i(int(d.Mate[i]) >= n))
				want.Mate[n+m+i] = d.Mate[n+i] + byte(m*b2i(int(d.Mate[n+i]) >= n))
			}
			for i := range m {
				want.Mate[n+i] = e.Mate[i] + byte(n+n*b2i(int(e.Mate[i]) >= m))
				want.Mate[n+m+n+i] = e.Mate[m+i] + byte(n+n*b2i(int(e.Mate[m+i]) >= m))
			}
			x, code := impl.UnionDiagram(d, e)
			if x != want || code != impl.ErrNone || !modelIsDiagram(x) {
				t.Fatalf("UnionDiagram(%v, %v) = %v, %d", d, e, x, code)
			}
			count++
		}
	}
	if count < 1000 {
		t.Errorf("only %d unions", count)
	}
	if x, _ := impl.UnionDiagram(parsed(t, "()()"), parsed(t, "(())")); modelText(x) != "()(())()" {
		t.Errorf("UnionDiagram = %q", modelText(x))
	}
}

func TestThroughLinesAndClosures(t *testing.T) {
	for _, d := range someDiagrams() {
		want := int64(0)
		for i := range d.Size {
			want += int64(b2i(int64(d.Mate[i]) >= d.Size))
		}
		if lines, code := impl.ThroughLines(d); lines != want || code != impl.ErrNone {
			t.Fatalf("ThroughLines(%v) = %d, %d", d, lines, code)
		}
		if loops, code := impl.ClosureLoops(d); loops != modelClosure(d) || code != impl.ErrNone {
			t.Fatalf("ClosureLoops(%v) = %d, %d", d, loops, code)
		}
	}
	cases := []struct {
		text         string
		lines, loops int64
	}{
		{"()", 1, 1}, {"(())", 2, 2}, {"()()", 0, 1}, {"((()))", 3, 3}, {"()(())", 1, 1}, {"(()())", 1, 2},
		{"(((((((())))))))", 8, 8}, {"()()()()()()()()", 0, 4}, {"()((()))()()()()", 0, 3},
	}
	for _, c := range cases {
		d := parsed(t, c.text)
		lines, _ := impl.ThroughLines(d)
		loops, _ := impl.ClosureLoops(d)
		if lines != c.lines || loops != c.loops {
			t.Errorf("%q: %d lines, %d loops", c.text, lines, loops)
		}
	}
}

func TestListsAndNumbers(t *testing.T) {
	for n := int64(1); n <= 8; n++ {
		want := modelList(n)
		if int64(len(want)) != catalans[n] {
			t.Fatalf("the model has %d diagrams of the size %d", len(want), n)
		}
		for k, d := range want {
			if k > 0 && modelText(want[k-1]) >= modelText(d) {
				t.Fatalf("the model has no order at %d of the size %d", k, n)
			}
			if x, code := impl.DiagramOfNumber(n, int64(k)); x != d || code != impl.ErrNone {
				t.Fatalf("DiagramOfNumber(%d, %d) = %v, %d", n, k, x, code)
			}
			if number, code := impl.NumberOfDiagram(d); number != int64(k) || code != impl.ErrNone {
				t.Fatalf("NumberOfDiagram(%v) = %d, %d", d, number, code)
			}
		}
		if n > 6 {
			continue
		}
		if list, code := impl.AllDiagrams(n); code != impl.ErrNone || !slices.Equal(list, want) {
			t.Fatalf("AllDiagrams(%d) has %d, code %d", n, len(list), code)
		}
	}
}

// TestListsAreNew changes a list, and asks for another one.
func TestListsAreNew(t *testing.T) {
	first, _ := impl.AllDiagrams(3)
	for i := range first {
		first[i] = impl.Diagram{}
	}
	_ = append(first, impl.Diagram{Size: 5})
	second, _ := impl.AllDiagrams(3)
	for i, text := range []string{"((()))", "(()())", "(())()", "()(())", "()()()"} {
		if modelText(second[i]) != text {
			t.Errorf("AllDiagrams(3) has %v at %d", second[i], i)
		}
	}
}
