package tests

import (
	"slices"
	"strings"
	"testing"

	"loop.example/g01251/impl"
)

// Tests of chapter 7: errors, their order, and the memory of results.

var noPartition = impl.Partition{}

// one07 are the functions that take a partition, with the answer whether their result is the zero
// value.
var one07 = map[string]func(a impl.Partition) (bool, int64){
	"PartitionText": func(a impl.Partition) (bool, int64) {
		text, code := impl.PartitionText(a)
		return text == "", code
	},
	"FlipPartition": func(a impl.Partition) (bool, int64) {
		b, code := impl.FlipPartition(a)
		return b == noPartition, code
	},
	"KindsOf": func(a impl.Partition) (bool, int64) {
		answers, code := impl.KindsOf(a)
		return len(answers) == 0, code
	},
	"ThroughParts": func(a impl.Partition) (bool, int64) {
		through, code := impl.ThroughParts(a)
		return through == 0, code
	},
	"DiagramOfPartition": func(a impl.Partition) (bool, int64) {
		d, code := impl.DiagramOfPartition(a)
		return d == none, code
	},
	"SurroundingDiagram": func(a impl.Partition) (bool, int64) {
		d, code := impl.SurroundingDiagram(a)
		return d == none, code
	},
	"PowersOfPartition": func(a impl.Partition) (bool, int64) {
		powers, code := impl.PowersOfPartition(a)
		return len(powers) == 0, code
	},
}

func TestErrorsOfNoPartitions(t *testing.T) {
	for _, bad := range badPartitions() {
		if impl.IsPartition(bad) || modelIsPartition(bad) {
			t.Errorf("IsPartition(%v) = true", bad)
		}
		for name, find := range one07 {
			if zero, code := find(bad); !zero || code != impl.ErrInvalid {
				t.Errorf("%s(%v): code %d", name, bad, code)
			}
		}
	}
}

// TestErrorsOfPairsOfPartitions checks that ErrInvalid comes ahead of ErrRange and ErrLimit.
func TestErrorsOfPairsOfPartitions(t *testing.T) {
	for _, bad := range badPartitions() {
		for _, text := range []string{"00", "0110", "012345", "01230123"} {
			good := partitioned(t, text)
			for _, pair := range [][2]impl.Partition{{bad, good}, {good, bad}, {bad, bad}} {
				if c, left, code := impl.MultiplyPartitions(pair[0], pair[1]); c != noPartition || left != 0 || code != impl.ErrInvalid {
					t.Errorf("MultiplyPartitions(%v) = %v, %d, %d", pair, c, left, code)
				}
				if c, code := impl.UnionPartition(pair[0], pair[1]); c != noPartition || code != impl.ErrInvalid {
					t.Errorf("UnionPartition(%v) = %v, %d", pair, c, code)
				}
			}
		}
	}
}

func TestErrorsOfSizesOfPartitions(t *testing.T) {
	list := []impl.Partition{}
	for _, text := range []string{"00", "01", "0101", "0122", "012012", "000000", "012345", "01230123", "00000000", "01234567"} {
		list = append(list, partitioned(t, text))
	}
	for _, a := range list {
		for _, b := range list {
			c, left, code := impl.MultiplyPartitions(a, b)
			if a.Size != b.Size && (c != noPartition || left != 0 || code != impl.ErrRange) || a.Size == b.Size && (c.Size != a.Size || code != impl.ErrNone) {
				t.Errorf("MultiplyPartitions(%v, %v) = %v, %d, %d", a, b, c, left, code)
			}
			c, code = impl.UnionPartition(a, b)
			if a.Size+b.Size > 4 && (c != noPartition || code != impl.ErrLimit) || a.Size+b.Size <= 4 && (c.Size != a.Size+b.Size || code != impl.ErrNone) {
				t.Errorf("UnionPartition(%v, %v) = %v, %d", a, b, c, code)
			}
		}
	}
}

func TestErrorsOfTextsOfPartitions(t *testing.T) {
	bad := []string{
		"", "0", "1", "000", "01012", "0123456", "012345678", "0000000", "000000000",
		"0000000000", "0123012301", "0123456789", "0101010101010101", strings.Repeat("0", 256), strings.Repeat("0", 258), strings.Repeat("01", 500), strings.Repeat("0", 1<<16+2),
		"10", "11", "02", "0132", "0021", "1010", "0103", "0123456/", "01234568", "01234569", "012301239",
		"0 ", " 0", "00 ", " 00", "00\n", "0\n", "0,0", "0 0 ", "-0", "+0", "0x", "0a", "0A", "()", "(())", "0/", "/0", "0:", "0\x00", "\x000", "\x00\x00", "\x00\x01", "0\xff", "0\x01", "00\x00", "00\x00\x00", "００", "0１",
		"0\xb1", "0\xb0", "01\xb0\xb1",
	}
	for _, text := range bad {
		if a, code := impl.ParsePartition(text); a != noPartition || code != impl.ErrSyntax {
			t.Errorf("ParsePartition(%q) = %v, %d", text, a, code)
		}
	}
	for _, text := range []string{"00", "01", "0101", "0110", "012345", "00000000", "01234567", "01234566"} {
		if lettered(t, partitioned(t, text)) != text {
			t.Errorf("ParsePartition(%q) = %v", text, partitioned(t, text))
		}
	}
}

func TestErrorsOfNumbersOfPoints(t *testing.T) {
	for _, n := range slices.Concat([]int64{0, 1, 2, 3, 4, 5, 6, 8, 256, 257, 260, 1<<32 + 1, 1<<62 + 1}, outside) {
		one, code := impl.UnitPartition(n)
		counts, same := impl.CountKinds(n)
		if isSize := n >= 1 && n <= 4; isSize && (one.Size != n || code != impl.ErrNone || len(counts) != 7 || same != impl.ErrNone) || !isSize && (one != noPartition || code != impl.ErrRange || len(counts) != 0 || same != impl.ErrRange) {
			t.Errorf("UnitPartition(%d) = %v, %d, CountKinds(%d) = %v, %d", n, one, code, n, counts, same)
		}
		list, code := impl.AllPartitions(n)
		if isListed := n >= 1 && n <= 3; isListed && (len(list) != bells[n] || code != impl.ErrNone) || !isListed && (len(list) != 0 || code != impl.ErrRange) {
			t.Errorf("AllPartitions(%d) has %d partitions, code %d", n, len(list), code)
		}
	}
}

// TestErrorsOfPartitionsOfDiagrams checks that ErrInvalid comes ahead of ErrLimit.
func TestErrorsOfPartitionsOfDiagrams(t *testing.T) {
	for _, bad := range badDiagrams() {
		if a, code := impl.PartitionOfDiagram(bad); a != noPartition || code != impl.ErrInvalid {
			t.Errorf("PartitionOfDiagram(%v) = %v, %d", bad, a, code)
		}
	}
	for _, d := range someDiagrams() {
		if a, code := impl.PartitionOfDiagram(d); d.Size > 4 && (a != noPartition || code != impl.ErrLimit) || d.Size <= 4 && code != impl.ErrNone {
			t.Fatalf("PartitionOfDiagram(%v) = %v, %d", d, a, code)
		}
	}
	five := parsed(t, "((((()))))")
	five.Mate[10] = 1
	if a, code := impl.PartitionOfDiagram(five); a != noPartition || code != impl.ErrInvalid {
		t.Errorf("PartitionOfDiagram(%v) = %v, %d", five, a, code)
	}
}

// TestErrorsOfStates checks partitions that are planar and not pair, pair and not planar, and neither.
func TestErrorsOfStates(t *testing.T) {
	for text, codes := range map[string][2]int64{
		"00": {impl.ErrNone, impl.ErrNone}, "01": {impl.ErrState, impl.ErrNone}, "0110": {impl.ErrState, impl.ErrState}, "0000": {impl.ErrState, impl.ErrNone}, "0012": {impl.ErrState, impl.ErrNone}, "0011": {impl.ErrNone, impl.ErrNone},
		"012103": {impl.ErrState, impl.ErrState}, "010101": {impl.ErrState, impl.ErrState}, "012345": {impl.ErrState, impl.ErrNone}, "001221": {impl.ErrNone, impl.ErrNone}, "012021": {impl.ErrState, impl.ErrState},
		"01230123": {impl.ErrNone, impl.ErrNone}, "01230132": {impl.ErrState, impl.ErrState}, "00000000": {impl.ErrState, impl.ErrNone}, "01012323": {impl.ErrState, impl.ErrState}, "00111100": {impl.ErrState, impl.ErrState},
	} {
		a := partitioned(t, text)
		if d, code := impl.DiagramOfPartition(a); code != codes[0] || impl.IsDiagram(d) != (code == impl.ErrNone) || code != impl.ErrNone && d != none {
			t.Errorf("DiagramOfPartition of %s = %v, %d", text, d, code)
		}
		if d, code := impl.SurroundingDiagram(a); code != codes[1] || impl.IsDiagram(d) != (code == impl.ErrNone) || code != impl.ErrNone && d != none {
			t.Errorf("SurroundingDiagram of %s = %v, %d", text, d, code)
		}
	}
}

// checkNew changes a list, and the spare capacity behind it, and checks that another one is as the
// first one was.
func checkNew[T comparable](t *testing.T, name string, other T, find func() []T) {
	t.Helper()
	list := find()
	want := slices.Clone(list)
	list = list[:cap(list)]
	for i := range list {
		list[i] = other
	}
	if got := find(); !slices.Equal(got, want) {
		t.Errorf("%s = %v behind a change of another result, not %v", name, got, want)
	}
}

func TestMemoryOfPartitions(t *testing.T) {
	for n := int64(1); n <= 4; n++ {
		checkNew(t, "CountKinds", -77, func() []int64 {
			counts, _ := impl.CountKinds(n)
			return counts
		})
		checkNew(t, "AllPartitions", noPartition, func() []impl.Partition {
			list, _ := impl.AllPartitions(n)
			return list
		})
	}
	for _, text := range []string{"00", "01", "0110", "01234012", "00112233"} {
		a := partitioned(t, text)
		for _, other := range []bool{false, true} {
			checkNew(t, "KindsOf", other, func() []bool { return kinds(t, a) })
		}
		checkNew(t, "PowersOfPartition", -77, func() []int64 {
			powers, _ := impl.PowersOfPartition(a)
			return powers
		})
	}
}
