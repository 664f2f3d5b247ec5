package tests

import (
	"math"
	"slices"
	"strings"
	"testing"

	"loop.example/g01251/impl"
)

// Tests of chapter 7: what the functions return for partitions and diagrams.

// bells are the numbers of partitions of the sizes 0 to 4.
var bells = []int{1, 2, 15, 203, 4140}

func TestLimitOfParts(t *testing.T) {
	if impl.MaxParts != 4 {
		t.Errorf("MaxParts is %d", impl.MaxParts)
	}
	for n := 1; n <= 4; n++ {
		if len(modelPartitions[n]) != bells[n] {
			t.Errorf("the model has %d partitions of the size %d", len(modelPartitions[n]), n)
		}
	}
}

// TestIsPartition goes through all structs of the sizes 1 to 3 with numbers up to 2 n for all points.
func TestIsPartition(t *testing.T) {
	for n := 1; n <= 3; n++ {
		a := impl.Partition{Size: int64(n)}
		count := 0
		var try func(point int)
		try = func(point int) {
			if point == 2*n {
				is, want := impl.IsPartition(a), modelIsPartition(a)
				if is != want {
					t.Fatalf("IsPartition(%v) = %v", a, is)
				}
				count += b2i(is)
				return
			}
			for number := range 2*n + 1 {
				a.Part[point] = byte(number)
				try(point + 1)
			}
		}
		try(0)
		if count != bells[n] {
			t.Errorf("there are %d partitions of the size %d", count, n)
		}
	}
}

// TestIsPartitionOfChangedPartitions changes one number, or the size.
func TestIsPartitionOfChangedPartitions(t *testing.T) {
	for _, a := range somePartitions() {
		if !impl.IsPartition(a) || !modelIsPartition(a) {
			t.Fatalf("%v is no partition", a)
		}
		for i := range a.Part {
			for _, number := range []byte{0, 1, 2, 3, 4, 5, 6, 7, 8, 9, 127, 128, 254, 255} {
				b := a
				b.Part[i] = number
				if impl.IsPartition(b) != modelIsPartition(b) {
					t.Fatalf("IsPartition(%v) = %v", b, !modelIsPartition(b))
				}
			}
		}
		for _, size := range []int64{0, 1, 2, 3, 4, 5, 8, -a.Size, a.Size + 256, a.Size + 1<<32, math.MinInt64 + a.Size} {
			b := impl.Partition{Size: size, Part: a.Part}
			if impl.IsPartition(b) != modelIsPartition(b) {
				t.Fatalf("IsPartition(%v) = %v", b, !modelIsPartition(b))
			}
		}
	}
}

func TestTextsOfPartitions(t *testing.T) {
	for _, a := range allSizes {
		letters := ""
		for _, number := range a.Part[:2*a.Size] {
			letters += "01234567"[number : number+1]
		}
		if text, code := impl.PartitionText(a); text != letters || code != impl.ErrNone {
			t.Fatalf("PartitionText(%v) = %q, %d", a, text, code)
		}
		if b, code := impl.ParsePartition(letters); b != a || code != impl.ErrNone {
			t.Fatalf("ParsePartition(%q) = %v, %d", letters, b, code)
		}
	}
	for text, a := range map[string]impl.Partition{
		"00":       {Size: 1},
		"01":       {Size: 1, Part: [8]byte{0, 1}},
		"0101":     {Size: 2, Part: [8]byte{0, 1, 0, 1}},
		"0000":     {Size: 2},
		"010213":   {Size: 3, Part: [8]byte{0, 1, 0, 2, 1, 3}},
		"00000000": {Size: 4},
		"01234567": {Size: 4, Part: [8]byte{0, 1, 2, 3, 4, 5, 6, 7}},
	} {
		if got := lettered(t, a); got != text {
			t.Errorf("PartitionText(%v) = %q", a, got)
		}
		if got := partitioned(t, text); got != a {
			t.Errorf("ParsePartition(%q) = %v", text, got)
		}
	}
}

// TestTextsThatAreNoPartitions parses all texts of at most six of some letters.
func TestTextsThatAreNoPartitions(t *testing.T) {
	for length := range 7 {
		forTexts("0123/:", length, func(text string) {
			a := impl.Partition{Size: int64(length / 2)}
			is := length%2 == 0 && strings.Trim(text, "0123") == ""
			for i := range text {
				a.Part[i] = text[i] - '0'
			}
			b, code := impl.ParsePartition(text)
			if is && modelIsPartition(a) {
				if b != a || code != impl.ErrNone {
					t.Fatalf("ParsePartition(%q) = %v, %d", text, b, code)
				}
			} else if b != (impl.Partition{}) || code != impl.ErrSyntax {
				t.Fatalf("ParsePartition(%q) = %v, %d", text, b, code)
			}
		})
	}
}

func TestUnitsOfPartitions(t *testing.T) {
	for n, text := range map[int64]string{1: "00", 2: "0101", 3: "012012", 4: "01230123"} {
		one, code := impl.UnitPartition(n)
		if one != partitioned(t, text) || code != impl.ErrNone {
			t.Errorf("UnitPartition(%d) = %v, %d", n, one, code)
		}
		for _, a := range modelPartitions[n] {
			x, left := stacked(t, one, a)
			y, right := stacked(t, a, one)
			if x != a || y != a || left != 0 || right != 0 {
				t.Fatalf("the products of the unit and %v are %v and %v", a, x, y)
			}
		}
	}
}

// checkStacked compares a product with the model, and returns the number of parts left out.
func checkStacked(t *testing.T, a impl.Partition, b impl.Partition) int64 {
	t.Helper()
	want, count := modelStacked(a, b)
	c, left, code := impl.MultiplyPartitions(a, b)
	if c != want || left != count || code != impl.ErrNone {
		t.Fatalf("MultiplyPartitions(%v, %v) = %v, %d, %d, not %v, %d", a, b, c, left, code, want, count)
	}
	return left
}

// TestProductsOfPartitions goes through all pairs of the sizes 1 to 3, and many ones of the size 4.
func TestProductsOfPartitions(t *testing.T) {
	for n := int64(1); n <= 3; n++ {
		for _, a := range modelPartitions[n] {
			for _, b := range modelPartitions[n] {
				checkStacked(t, a, b)
			}
		}
	}
	s := sampler(7)
	var met [5]int
	for _, a := range modelPartitions[4] {
		for range 4 {
			met[checkStacked(t, a, s.partition(4))]++
			met[checkStacked(t, s.loose(4), a)]++
			met[checkStacked(t, s.loose(4), s.loose(4))]++
		}
		met[checkStacked(t, a, a)]++
	}
	for left, count := range met {
		if count == 0 {
			t.Errorf("no product of the size 4 leaves out %d parts", left)
		}
	}
}

func TestProductsOfPartitionsByHand(t *testing.T) {
	for _, row := range []struct {
		a, b, product string
		left          int64
	}{
		{"00", "00", "00", 0}, {"01", "00", "01", 0}, {"00", "01", "01", 0}, {"01", "01", "01", 1},
		{"0101", "0110", "0110", 0}, {"0110", "0110", "0101", 0}, {"0123", "0123", "0123", 2}, {"0011", "0011", "0011", 1},
		{"0000", "0123", "0012", 0}, {"0123", "0000", "0122", 0}, {"0011", "0123", "0012", 1}, {"0123", "0011", "0122", 1},
		{"0012", "0122", "0011", 2}, {"0012", "0011", "0011", 1}, {"0101", "0000", "0000", 0}, {"0102", "0121", "0123", 0},
		{"0122", "0012", "0123", 1}, {"0012", "0123", "0012", 2},
		{"001122", "011220", "001221", 1}, {"012332", "011233", "012344", 0},
		{"01230123", "01234567", "01234567", 0}, {"01234567", "01234567", "01234567", 4}, {"00001111", "00001111", "00001111", 1},
		{"00112233", "01230123", "00112233", 0}, {"00112233", "00112233", "00112233", 2}, {"00112332", "00112233", "00112233", 1},
		{"00112323", "01012323", "00112323", 2}, {"01231230", "01233012", "01230123", 0}, {"00000000", "00000000", "00000000", 0},
	} {
		a, b := partitioned(t, row.a), partitioned(t, row.b)
		if c, left := stacked(t, a, b); lettered(t, c) != row.product || left != row.left {
			t.Errorf("the product of %s and %s is %s, and leaves out %d, not %s, %d", row.a, row.b, lettered(t, c), left, row.product, row.left)
		}
	}
}

// checkAssociative checks promise 7 for three partitions.
func checkAssociative(t *testing.T, a impl.Partition, b impl.Partition, c impl.Partition) {
	t.Helper()
	ab, first := stacked(t, a, b)
	left, second := stacked(t, ab, c)
	bc, third := stacked(t, b, c)
	right, fourth := stacked(t, a, bc)
	if left != right || first+second != third+fourth {
		t.Fatalf("%v, %v, %v: %v leaves out %d, %v leaves out %d", a, b, c, left, first+second, right, third+fourth)
	}
}

// TestProductsOfPartitionsAreAssociative checks the first half of promise 7.
func TestProductsOfPartitionsAreAssociative(t *testing.T) {
	for _, list := range modelPartitions[1:3] {
		for _, a := range list {
			for _, b := range list {
				for _, c := range list {
					checkAssociative(t, a, b, c)
				}
			}
		}
	}
	s := sampler(77)
	for _, a := range modelPartitions[3] {
		for _, b := range modelPartitions[3] {
			checkAssociative(t, a, b, s.partition(3))
		}
	}
	for range 8000 {
		checkAssociative(t, s.partition(4), s.partition(4), s.partition(4))
		checkAssociative(t, s.loose(4), s.loose(4), s.loose(4))
		checkAssociative(t, s.loose(4), s.partition(4), s.loose(4))
	}
}

// TestProductsOfPlanarPartitions checks the second half of promise 7, and that surroundings of products
// are products of the surroundings.
func TestProductsOfPlanarPartitions(t *testing.T) {
	check := func(a impl.Partition, b impl.Partition) {
		c, _ := stacked(t, a, b)
		if !modelIsPlanar(c) || !kinds(t, c)[0] {
			t.Fatalf("the product %v of %v and %v is not planar", c, a, b)
		}
		d, _ := modelProduct(surrounded(t, a), surrounded(t, b))
		if surrounded(t, c) != d {
			t.Fatalf("the surrounding of the product %v is %v, not %v", c, surrounded(t, c), d)
		}
	}
	s := sampler(1)
	for n := 1; n <= 4; n++ {
		planar := []impl.Partition{}
		for _, a := range modelPartitions[n] {
			if modelIsPlanar(a) {
				planar = append(planar, a)
			}
		}
		for _, a := range planar {
			if n < 3 {
				for _, b := range planar {
					check(a, b)
				}
				continue
			}
			for range 12 {
				check(a, planar[s.below(int64(len(planar)))])
			}
		}
	}
}

// TestProductsOfPermutations goes through all pairs of permutations. They leave out nothing.
func TestProductsOfPermutations(t *testing.T) {
	for n := int64(1); n <= 4; n++ {
		list := []impl.Partition{}
		forPermutations(n, func(order []int64) {
			list = append(list, modelRelated(int(n), func(i int, j int) bool {
				return i == j || max(i, j) >= int(n) && min(i, j) < int(n) && order[min(i, j)] == int64(max(i, j))-n
			}))
		})
		for _, a := range list {
			for _, b := range list {
				c, left := stacked(t, a, b)
				if !slices.Contains(list, c) || left != 0 || !kinds(t, c)[4] {
					t.Fatalf("the product of %v and %v is %v, and leaves out %d", a, b, c, left)
				}
			}
		}
	}
}

func TestFlipsOfPartitions(t *testing.T) {
	for _, a := range allSizes {
		n := int(a.Size)
		want := modelRelated(n, func(i int, j int) bool { return a.Part[modelOther(n, i)] == a.Part[modelOther(n, j)] })
		if got, code := impl.FlipPartition(a); got != want || code != impl.ErrNone {
			t.Fatalf("FlipPartition(%v) = %v, %d", a, got, code)
		}
		if back := turnedOver(t, turnedOver(t, a)); back != a {
			t.Fatalf("the flip of %v does not lead back, but to %v", a, back)
		}
	}
	for text, flip := range map[string]string{"00": "00", "01": "01", "0122": "0012", "0112": "0120", "0110": "0110", "0001": "0100", "012130": "012203", "01234012": "01231234"} {
		if got := lettered(t, turnedOver(t, partitioned(t, text))); got != flip {
			t.Errorf("the flip of %s is %s, not %s", text, got, flip)
		}
	}
}

// TestFlipsTurnProductsRound goes through all pairs of the sizes 1 and 2, and many ones of the others.
func TestFlipsTurnProductsRound(t *testing.T) {
	check := func(a impl.Partition, b impl.Partition) {
		c, left := stacked(t, a, b)
		d, same := stacked(t, turnedOver(t, b), turnedOver(t, a))
		if turnedOver(t, c) != d || left != same {
			t.Fatalf("the flip of the product of %v and %v is not %v, or leaves out %d and %d", a, b, d, left, same)
		}
	}
	s := sampler(5)
	for _, a := range allSizes {
		if a.Size < 3 {
			for _, b := range modelPartitions[a.Size] {
				check(a, b)
			}
			continue
		}
		for range 3 {
			check(a, s.partition(a.Size))
			check(a, s.loose(a.Size))
		}
	}
}

// TestUnionsOfPartitions goes through all pairs whose sizes together are at most 4.
func TestUnionsOfPartitions(t *testing.T) {
	count := 0
	for _, a := range allSizes {
		for _, b := range allSizes {
			n, m := int(a.Size), int(b.Size)
			if n+m > 4 {
				continue
			}
			// number tells the factor and the part of a point of the union.
			number := func(i int) int {
				column, side := i%(n+m), i/(n+m)
				if column < n {
					return int(a.Part[side*n+column])
				}
				return 100 + int(b.Part[side*m+column-n])
			}
			want := modelRelated(n+m, func(i int, j int) bool { return number(i) == number(j) })
			if got, code := impl.UnionPartition(a, b); got != want || code != impl.ErrNone {
				t.Fatalf("UnionPartition(%v, %v) = %v, %d, not %v", a, b, got, code, want)
			}
			count++
		}
	}
	if count != 2*2+2*2*15+15*15+2*2*203 {
		t.Errorf("there are %d unions", count)
	}
	for _, row := range [][3]string{{"00", "00", "0101"}, {"00", "01", "0102"}, {"01", "00", "0121"}, {"01", "01", "0123"}, {"0110", "00", "012102"}, {"00", "0110", "012021"}, {"0000", "0000", "00110011"}, {"0123", "0123", "01234567"}, {"012012", "01", "01230124"}, {"01", "001122", "01123244"}} {
		if got := lettered(t, besides(t, partitioned(t, row[0]), partitioned(t, row[1]))); got != row[2] {
			t.Errorf("the union of %s and %s is %s, not %s", row[0], row[1], got, row[2])
		}
	}
}

// TestProductsOfUnions checks that products of unions are unions of products.
func TestProductsOfUnions(t *testing.T) {
	s := sampler(3)
	for _, sizes := range [][2]int64{{1, 1}, {1, 2}, {2, 1}, {2, 2}, {1, 3}, {3, 1}} {
		for range 200 {
			a, b, c, d := s.loose(sizes[0]), s.loose(sizes[1]), s.loose(sizes[0]), s.loose(sizes[1])
			ac, first := stacked(t, a, c)
			bd, second := stacked(t, b, d)
			both, left := stacked(t, besides(t, a, b), besides(t, c, d))
			if both != besides(t, ac, bd) || left != first+second {
				t.Fatalf("the product of the unions of %v and %v, and of %v and %v, is %v, and leaves out %d", a, b, c, d, both, left)
			}
		}
	}
}

// TestKinds goes through all partitions.
func TestKinds(t *testing.T) {
	for n := range 5 {
		var has, hasNot [7]int
		for _, a := range modelPartitions[n] {
			want := modelKinds(a)
			if got, code := impl.KindsOf(a); !slices.Equal(got, want) || code != impl.ErrNone {
				t.Fatalf("KindsOf(%v) = %v, %d, not %v", a, got, code, want)
			}
			for k, is := range want {
				has[k] += b2i(is)
				hasNot[k] += b2i(!is)
			}
		}
		if n > 1 && (slices.Contains(has[:], 0) || slices.Contains(hasNot[:], 0)) {
			t.Errorf("of the size %d, kinds have %v, and have not %v partitions", n, has, hasNot)
		}
	}
}

func TestKindsByHand(t *testing.T) {
	for text, answers := range map[string]string{
		"00": "1111101", "01": "1011010",
		"0101": "1111101", "0110": "0101101", "0011": "1110010", "0000": "1000001", "0123": "1011010", "0112": "1011000", "0122": "1010010", "0001": "1000000", "0100": "1000000", "0120": "1011000",
		"012210": "0101101", "001122": "1110000", "012103": "0001000", "010101": "0000000", "010232": "1010010", "012012": "1111101", "000111": "1000010",
		"01012323": "0100010", "01010101": "0000001", "00000000": "1000001", "01234567": "1011010", "01234012": "1011000", "01100110": "0000001", "00111100": "0000001", "01102332": "1110010", "00110011": "1000001",
	} {
		got := ""
		for _, is := range kinds(t, partitioned(t, text)) {
			got += "01"[b2i(is) : b2i(is)+1]
		}
		if got != answers {
			t.Errorf("the kinds of %s are %s, not %s", text, got, answers)
		}
	}
}

func TestThroughParts(t *testing.T) {
	for _, a := range allSizes {
		want := int64(0)
		for _, part := range modelPartsOf(a) {
			want += int64(b2i(part[0] < int(a.Size) && part[len(part)-1] >= int(a.Size)))
		}
		if got, code := impl.ThroughParts(a); got != want || code != impl.ErrNone {
			t.Fatalf("ThroughParts(%v) = %d, %d, not %d", a, got, code, want)
		}
		if kinds(t, a)[5] != (want == 0) {
			t.Fatalf("%v with %d parts that go through has the kinds %v", a, want, kinds(t, a))
		}
	}
	for text, want := range map[string]int64{"00": 1, "01": 0, "0101": 2, "0011": 0, "0000": 1, "0123": 0, "0012": 0, "0122": 0, "0001": 1, "012012": 3, "012304": 1, "01230123": 4, "00000000": 1, "00001111": 0, "01234012": 3} {
		if got, code := impl.ThroughParts(partitioned(t, text)); got != want || code != impl.ErrNone {
			t.Errorf("ThroughParts of %s = %d, %d, not %d", text, got, code, want)
		}
	}
}

func TestListsOfPartitions(t *testing.T) {
	for n := int64(1); n <= 3; n++ {
		if list, code := impl.AllPartitions(n); !slices.Equal(list, modelPartitions[n]) || code != impl.ErrNone {
			t.Errorf("AllPartitions(%d) = %v, %d", n, list, code)
		}
	}
	list, _ := impl.AllPartitions(2)
	texts := []string{}
	for _, a := range list {
		texts = append(texts, lettered(t, a))
	}
	want := []string{"0000", "0001", "0010", "0011", "0012", "0100", "0101", "0102", "0110", "0111", "0112", "0120", "0121", "0122", "0123"}
	if !slices.Equal(texts, want) {
		t.Errorf("AllPartitions(2) has the texts %v", texts)
	}
}

// TestCountsOfKinds checks, among others, numbers of Catalan, double factorials, numbers of Motzkin,
// and factorials.
func TestCountsOfKinds(t *testing.T) {
	for n, want := range [][]int64{1: {2, 1, 2, 2, 1, 1, 1}, 2: {14, 3, 9, 7, 2, 4, 3}, 3: {132, 15, 51, 34, 6, 25, 16}, 4: {1430, 105, 323, 209, 24, 225, 131}} {
		if n == 0 {
			continue
		}
		if got, code := impl.CountKinds(int64(n)); !slices.Equal(got, want) || code != impl.ErrNone {
			t.Errorf("CountKinds(%d) = %v, %d, not %v", n, got, code, want)
		}
		counts := make([]int64, 7)
		for _, a := range modelPartitions[n] {
			for k, is := range modelKinds(a) {
				counts[k] += int64(b2i(is))
			}
		}
		if !slices.Equal(counts, want) {
			t.Errorf("the model has the counts %v for the size %d", counts, n)
		}
	}
}

// TestPlanarPartitionsAreAsManyAsDiagrams checks the first half of promise 17. As diagrams of the size 8
// are not listed, it asks for the last one, and the one behind it.
func TestPlanarPartitionsAreAsManyAsDiagrams(t *testing.T) {
	for n := int64(1); n <= 4; n++ {
		counts, code := impl.CountKinds(n)
		if code != impl.ErrNone || len(counts) != 7 || counts[0] != catalans[2*n] {
			t.Fatalf("CountKinds(%d) = %v, %d", n, counts, code)
		}
		if _, code := impl.DiagramOfNumber(2*n, counts[0]-1); code != impl.ErrNone {
			t.Errorf("there are less than %d diagrams of the size %d", counts[0], 2*n)
		}
		if _, code := impl.DiagramOfNumber(2*n, counts[0]); code != impl.ErrRange {
			t.Errorf("there are more than %d diagrams of the size %d", counts[0], 2*n)
		}
		if n > 3 {
			continue
		}
		list, _ := impl.AllPartitions(n)
		diagrams, _ := impl.AllDiagrams(2 * n)
		planar := 0
		for _, a := range list {
			planar += b2i(kinds(t, a)[0])
		}
		if planar != len(diagrams) {
			t.Errorf("there are %d planar partitions of the size %d, and %d diagrams of the size %d", planar, n, len(diagrams), 2*n)
		}
	}
}

// TestPartitionsOfDiagrams goes through all diagrams of the sizes 1 to 4.
func TestPartitionsOfDiagrams(t *testing.T) {
	for n := int64(1); n <= 4; n++ {
		for _, d := range modelList(n) {
			want := modelRelated(int(n), func(i int, j int) bool { return i == j || int(d.Mate[i]) == j })
			a, code := impl.PartitionOfDiagram(d)
			if a != want || code != impl.ErrNone {
				t.Fatalf("PartitionOfDiagram(%v) = %v, %d, not %v", d, a, code, want)
			}
			if answers := kinds(t, a); !answers[0] || !answers[1] || !answers[2] {
				t.Fatalf("the kinds of the partition of %v are %v", d, answers)
			}
			if e, code := impl.DiagramOfPartition(a); e != d || code != impl.ErrNone {
				t.Fatalf("DiagramOfPartition(%v) = %v, %d, not %v", a, e, code, d)
			}
			through, _ := impl.ThroughParts(a)
			if lines, _ := impl.ThroughLines(d); through != lines {
				t.Fatalf("%d parts of %v go through", through, a)
			}
		}
	}
	for text, want := range map[string]string{"()": "00", "(())": "0101", "()()": "0011", "((()))": "012012", "(()())": "011022", "(())()": "011220", "()(())": "001122", "()()()": "001221", "(((())))": "01230123", "()()()()": "00112233", "((())())": "01220331", "()((()))": "00121233"} {
		if got := lettered(t, lined(t, parsed(t, text))); got != want {
			t.Errorf("the partition of %s is %s, not %s", text, got, want)
		}
	}
}

// TestPartitionsOfDiagramsMultiply checks the second half of promise 17 for all pairs.
func TestPartitionsOfDiagramsMultiply(t *testing.T) {
	for n := int64(1); n <= 4; n++ {
		one, _ := impl.UnitDiagram(n)
		if unit, _ := impl.UnitPartition(n); lined(t, one) != unit {
			t.Errorf("the partition of the unit of the size %d is %v", n, lined(t, one))
		}
		for _, d := range modelList(n) {
			flip, _ := impl.FlipDiagram(d)
			if lined(t, flip) != turnedOver(t, lined(t, d)) {
				t.Fatalf("the partition of the flip of %v is %v", d, lined(t, flip))
			}
			for _, e := range modelList(n) {
				f, loops, _ := impl.MultiplyDiagrams(d, e)
				a, left := stacked(t, lined(t, d), lined(t, e))
				if lined(t, f) != a || left != loops {
					t.Fatalf("the product of the partitions of %v and %v is %v, and leaves out %d, not %v, %d", d, e, a, left, lined(t, f), loops)
				}
			}
		}
	}
}

func TestPartitionsOfUnionsOfDiagrams(t *testing.T) {
	for n := int64(1); n <= 3; n++ {
		for m := int64(1); n+m <= 4; m++ {
			for _, d := range modelList(n) {
				for _, e := range modelList(m) {
					both, _ := impl.UnionDiagram(d, e)
					if lined(t, both) != besides(t, lined(t, d), lined(t, e)) {
						t.Fatalf("the partition of the union of %v and %v is %v", d, e, lined(t, both))
					}
				}
			}
		}
	}
}

// TestDiagramsOfPartitions goes through all partitions.
func TestDiagramsOfPartitions(t *testing.T) {
	count := map[string]int{}
	for _, a := range allSizes {
		want, code := impl.Diagram{}, int64(impl.ErrState)
		answers := modelKinds(a)
		if answers[0] && answers[1] {
			code = impl.ErrNone
			want.Size = a.Size
			for _, part := range modelPartsOf(a) {
				want.Mate[part[0]], want.Mate[part[1]] = byte(part[1]), byte(part[0])
			}
			count["both"]++
		} else if answers[0] {
			count["planar"]++
		} else if answers[1] {
			count["pair"]++
		}
		got, gotten := impl.DiagramOfPartition(a)
		if got != want || gotten != code {
			t.Fatalf("DiagramOfPartition(%v) = %v, %d, not %v, %d", a, got, gotten, want, code)
		}
		if code == impl.ErrNone && lined(t, got) != a {
			t.Fatalf("the partition of the diagram of %v is %v", a, lined(t, got))
		}
	}
	if count["both"] != 1+2+5+14 || count["planar"] == 0 || count["pair"] == 0 {
		t.Errorf("the partitions are %v", count)
	}
}

// TestSurroundings goes through all partitions, and checks that each diagram of an even size is the
// surrounding of one planar partition.
func TestSurroundings(t *testing.T) {
	met := map[impl.Diagram]bool{}
	for _, a := range allSizes {
		want, planar := modelAround[a]
		if planar != modelIsPlanar(a) {
			t.Fatalf("the model has %v as the surrounding of %v", want, a)
		}
		d, code := impl.SurroundingDiagram(a)
		if planar && (d != want || code != impl.ErrNone) || !planar && (d != none || code != impl.ErrState) {
			t.Fatalf("SurroundingDiagram(%v) = %v, %d, not %v", a, d, code, want)
		}
		if planar {
			if met[d] {
				t.Fatalf("%v is the surrounding of %v and another partition", d, a)
			}
			met[d] = true
		}
	}
	if len(met) != 2+14+132+1430 {
		t.Errorf("there are %d surroundings", len(met))
	}
}

func TestSurroundingsByHand(t *testing.T) {
	for text, want := range map[string]string{
		"00": "(())", "01": "()()",
		"0000": "(()()())", "0123": "()()()()", "0101": "(((())))", "0011": "(())(())", "0112": "()((()))", "0012": "(())()()", "0001": "(()(()))", "0120": "((()))()", "0100": "((())())", "0010": "(()())()",
		"000000": "(()()()()())", "012345": "()()()()()()", "012012": "(((((())))))",
		"00000000": "(()()()()()()())", "01234567": "()()()()()()()()", "01230123": "(((((((())))))))", "00001111": "(()()())(()()())",
	} {
		if got := modelText(surrounded(t, partitioned(t, text))); got != want {
			t.Errorf("the surrounding of %s is %s, not %s", text, got, want)
		}
	}
}

// TestPowersOfPartitions goes through all partitions.
func TestPowersOfPartitions(t *testing.T) {
	met := map[[2]int64]int{}
	for _, a := range allSizes {
		want := modelPowers(a)
		if got, code := impl.PowersOfPartition(a); !slices.Equal(got, want) || code != impl.ErrNone {
			t.Fatalf("PowersOfPartition(%v) = %v, %d, not %v", a, got, code, want)
		}
		met[[2]int64(want)]++
	}
	for _, pair := range [][2]int64{{1, 1}, {1, 2}, {1, 3}, {1, 4}, {2, 1}, {2, 2}, {3, 1}, {4, 1}} {
		if met[pair] == 0 {
			t.Errorf("no partition has the powers %v, but %v", pair, met)
		}
	}
}

func TestPowersOfPartitionsByHand(t *testing.T) {
	for text, want := range map[string][]int64{
		"00": {1, 1}, "01": {1, 1},
		"0101": {1, 1}, "0110": {1, 2}, "0011": {1, 1}, "0120": {2, 1}, "0123": {1, 1}, "0000": {1, 1},
		"012120": {1, 3}, "012102": {1, 2}, "012301": {3, 1}, "001221": {1, 1},
		"01231230": {1, 4}, "01234012": {4, 1}, "01231032": {1, 2}, "01231203": {1, 3}, "01234102": {3, 1}, "01231042": {2, 2},
	} {
		got, code := impl.PowersOfPartition(partitioned(t, text))
		if !slices.Equal(got, want) || code != impl.ErrNone {
			t.Errorf("PowersOfPartition of %s = %v, %d, not %v", text, got, code, want)
		}
	}
}
