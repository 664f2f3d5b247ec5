package tests

import (
	"math"
	"strings"
	"testing"

	"loop.example/g01251/impl"
)

// Tests of chapter 1: errors, their order, and the zero values beside them.

var none = impl.Diagram{}

func TestErrorsOfNoDiagrams(t *testing.T) {
	moves := map[string]func(impl.Diagram) (impl.Diagram, int64){
		"FlipDiagram": impl.FlipDiagram, "MirrorDiagram": impl.MirrorDiagram, "TurnDiagram": impl.TurnDiagram,
	}
	numbers := map[string]func(impl.Diagram) (int64, int64){
		"ThroughLines": impl.ThroughLines, "ClosureLoops": impl.ClosureLoops, "NumberOfDiagram": impl.NumberOfDiagram,
	}
	for _, bad := range badDiagrams() {
		if impl.IsDiagram(bad) || modelIsDiagram(bad) {
			t.Errorf("IsDiagram(%v) = true", bad)
		}
		if text, code := impl.DiagramText(bad); text != "" || code != impl.ErrInvalid {
			t.Errorf("DiagramText(%v) = %q, %d", bad, text, code)
		}
		for name, move := range moves {
			if x, code := move(bad); x != none || code != impl.ErrInvalid {
				t.Errorf("%s(%v) = %v, %d", name, bad, x, code)
			}
		}
		for name, number := range numbers {
			if x, code := number(bad); x != 0 || code != impl.ErrInvalid {
				t.Errorf("%s(%v) = %d, %d", name, bad, x, code)
			}
		}
	}
}

// TestErrorsOfPairs checks that ErrInvalid comes ahead of ErrRange and ErrLimit.
func TestErrorsOfPairs(t *testing.T) {
	for _, bad := range badDiagrams() {
		for _, text := range []string{"()", "()()", "(((((((())))))))"} {
			good := parsed(t, text)
			for _, pair := range [][2]impl.Diagram{{bad, good}, {good, bad}, {bad, bad}} {
				if x, loops, code := impl.MultiplyDiagrams(pair[0], pair[1]); x != none || loops != 0 || code != impl.ErrInvalid {
					t.Errorf("MultiplyDiagrams(%v) = %v, %d, %d", pair, x, loops, code)
				}
				if x, code := impl.UnionDiagram(pair[0], pair[1]); x != none || code != impl.ErrInvalid {
					t.Errorf("UnionDiagram(%v) = %v, %d", pair, x, code)
				}
			}
		}
	}
}

func TestErrorsOfSizes(t *testing.T) {
	units := []impl.Diagram{}
	for n := int64(1); n <= 8; n++ {
		d, _ := impl.UnitDiagram(n)
		units = append(units, d)
	}
	for _, d := range units {
		for _, e := range units {
			x, loops, code := impl.MultiplyDiagrams(d, e)
			if d.Size != e.Size && (x != none || loops != 0 || code != impl.ErrRange) || d.Size == e.Size && code != impl.ErrNone {
				t.Errorf("MultiplyDiagrams of %d and %d: %v, %d, %d", d.Size, e.Size, x, loops, code)
			}
			x, code = impl.UnionDiagram(d, e)
			if d.Size+e.Size > 8 && (x != none || code != impl.ErrLimit) || d.Size+e.Size <= 8 && code != impl.ErrNone {
				t.Errorf("UnionDiagram of %d and %d: %v, %d", d.Size, e.Size, x, code)
			}
		}
	}
}

func TestErrorsOfTexts(t *testing.T) {
	bad := []string{
		"", "(", ")", ")(", "((", "))", "()(", "(()", "())", "())(", "(()))(", "())(()", "() ", " ()", "( )", "()\n", "()x)", "[]", "()[]", "(|)",
		"\x00\x00", "(\xff", "（）", "()()()()()()()()()", "((((((((()))))))))", strings.Repeat("()", 500), strings.Repeat("(", 16), strings.Repeat(")", 16),
		strings.Repeat("(", 1000),
	}
	for _, text := range bad {
		if d, code := impl.ParseDiagram(text); d != none || code != impl.ErrSyntax {
			t.Errorf("ParseDiagram(%q) = %v, %d", text, d, code)
		}
	}
	for _, text := range []string{"()", "(((((((())))))))", "()()()()()()()()", "(()()()()()()())"} {
		if d, code := impl.ParseDiagram(text); modelText(d) != text || code != impl.ErrNone {
			t.Errorf("ParseDiagram(%q) = %v, %d", text, d, code)
		}
	}
}

// outside are numbers that are in no range of chapter 1.
var outside = []int64{-1, -2, -8, -256, math.MinInt64, math.MinInt64 + 1, math.MaxInt64, math.MaxInt64 - 1, 1 << 32, 264}

func TestErrorsOfUnits(t *testing.T) {
	for _, n := range append([]int64{0, 9, 10}, outside...) {
		if d, code := impl.UnitDiagram(n); d != none || code != impl.ErrRange {
			t.Errorf("UnitDiagram(%d) = %v, %d", n, d, code)
		}
	}
}

func TestErrorsOfGenerators(t *testing.T) {
	for _, n := range append([]int64{0, 1, 9}, outside...) {
		for _, i := range append([]int64{0, 1, n - 2, n - 1}, outside...) {
			if d, code := impl.GeneratorDiagram(n, i); d != none || code != impl.ErrRange {
				t.Errorf("GeneratorDiagram(%d, %d) = %v, %d", n, i, d, code)
			}
		}
	}
	for n := int64(2); n <= 8; n++ {
		for _, i := range append([]int64{n - 1, n, 2 * n}, outside...) {
			if d, code := impl.GeneratorDiagram(n, i); d != none || code != impl.ErrRange {
				t.Errorf("GeneratorDiagram(%d, %d) = %v, %d", n, i, d, code)
			}
		}
	}
}

func TestErrorsOfLists(t *testing.T) {
	for _, n := range append([]int64{0, 7, 8, 9}, outside...) {
		if list, code := impl.AllDiagrams(n); len(list) != 0 || code != impl.ErrRange {
			t.Errorf("AllDiagrams(%d) = %d diagrams, %d", n, len(list), code)
		}
	}
}

func TestErrorsOfNumbers(t *testing.T) {
	for _, n := range append([]int64{0, 9}, outside...) {
		for _, k := range append([]int64{0, 1}, outside...) {
			if d, code := impl.DiagramOfNumber(n, k); d != none || code != impl.ErrRange {
				t.Errorf("DiagramOfNumber(%d, %d) = %v, %d", n, k, d, code)
			}
		}
	}
	for n := int64(1); n <= 8; n++ {
		for _, k := range []int64{-1, math.MinInt64, catalans[n], catalans[n] + 1, math.MaxInt64} {
			if d, code := impl.DiagramOfNumber(n, k); d != none || code != impl.ErrRange {
				t.Errorf("DiagramOfNumber(%d, %d) = %v, %d", n, k, d, code)
			}
		}
		if d, code := impl.DiagramOfNumber(n, catalans[n]-1); modelText(d) != strings.Repeat("()", int(n)) || code != impl.ErrNone {
			t.Errorf("the last diagram of %d is %v, %d", n, d, code)
		}
	}
}
