package tests

import (
	"slices"
	"testing"

	"loop.example/g01251/impl"
)

// This file holds a second, slow reading of chapter 7, against which the package is tested. Parts are
// lists of points, products are parts of a graph, and surroundings are found from the diagrams, by the
// points that their lines go around together.

// modelIsPartition checks each condition on partitions by itself.
func modelIsPartition(a impl.Partition) bool {
	if a.Size < 1 || a.Size > 4 {
		return false
	}
	for i, number := range a.Part {
		if i >= int(2*a.Size) || i == 0 {
			if number != 0 {
				return false
			}
			continue
		}
		if int(number) > int(slices.Max(a.Part[:i]))+1 {
			return false
		}
	}
	return true
}

// modelRelated returns the partition of the size n in which two points are in one part if they are
// together. The number of a part is the number of the parts with points ahead of all of its points.
func modelRelated(n int, together func(i int, j int) bool) impl.Partition {
	first := make([]int, 2*n)
	for i := range first {
		for !together(i, first[i]) {
			first[i]++
		}
	}
	a := impl.Partition{Size: int64(n)}
	for i := range first {
		for j := range first[i] {
			a.Part[i] += byte(b2i(first[j] == j))
		}
	}
	return a
}

// modelPartition returns the partition with some parts.
func modelPartition(n int, parts [][]int) impl.Partition {
	return modelRelated(n, func(i int, j int) bool {
		return slices.ContainsFunc(parts, func(part []int) bool {
			return slices.Contains(part, i) && slices.Contains(part, j)
		})
	})
}

// modelPartsOf returns the points of each part.
func modelPartsOf(a impl.Partition) [][]int {
	parts := [][]int{}
	for number := range byte(8) {
		part := []int{}
		for i, other := range a.Part[:2*a.Size] {
			if other == number {
				part = append(part, i)
			}
		}
		if len(part) > 0 {
			parts = append(parts, part)
		}
	}
	return parts
}

// comparePartitions compares partitions of one size.
func comparePartitions(a impl.Partition, b impl.Partition) int {
	return slices.Compare(a.Part[:], b.Part[:])
}

// modelPartitions has, for each size, all partitions in order. The last point is put into each part of
// the points ahead of it, and into one of its own.
var modelPartitions = func() [][]impl.Partition {
	lists := make([][]impl.Partition, 5)
	divided := [][][]int{{}}
	for point := range 8 {
		longer := [][][]int{}
		for _, parts := range divided {
			longer = append(longer, append(slices.Clone(parts), []int{point}))
			for k, part := range parts {
				more := slices.Clone(parts)
				more[k] = append(slices.Clone(part), point)
				longer = append(longer, more)
			}
		}
		divided = longer
		if n := (point + 1) / 2; point%2 == 1 {
			for _, parts := range divided {
				lists[n] = append(lists[n], modelPartition(n, parts))
			}
			slices.SortFunc(lists[n], comparePartitions)
		}
	}
	return lists
}()

// allSizes are all partitions of all sizes.
var allSizes = slices.Concat(modelPartitions...)

// modelStacked returns the product of a and b, and the number of parts that are left out. The upper
// points of a are 0 to n - 1, the points that meet n to 2 n - 1, and the lower points of b the last
// ones.
func modelStacked(a impl.Partition, b impl.Partition) (impl.Partition, int64) {
	n := int(a.Size)
	g := make(modelGraph, 3*n)
	for i := range 2 * n {
		for j := range i {
			if a.Part[i] == a.Part[j] {
				g.join(i, j)
			}
			if b.Part[i] == b.Part[j] {
				g.join(n+i, n+j)
			}
		}
	}
	part := g.parts()
	ends := slices.Concat(part[:n], part[2*n:])
	left := map[int]bool{}
	for _, k := range part[n : 2*n] {
		if !slices.Contains(ends, k) {
			left[k] = true
		}
	}
	return modelRelated(n, func(i int, j int) bool { return ends[i] == ends[j] }), int64(len(left))
}

// modelOther returns the point on the other side.
func modelOther(n int, i int) int {
	return (i + n) % (2 * n)
}

// modelIsPlanar reads the definition as it stands.
func modelIsPlanar(a impl.Partition) bool {
	n := int(a.Size)
	at := make([]byte, 2*n)
	for i := range at {
		at[modelPlace(n, i)] = a.Part[i]
	}
	for d := range at {
		for c := range d {
			for b := range c {
				for x := range b {
					if at[x] == at[c] && at[b] == at[d] && at[x] != at[b] {
						return false
					}
				}
			}
		}
	}
	return true
}

// modelKinds returns the seven answers.
func modelKinds(a impl.Partition) []bool {
	n := int(a.Size)
	planar, pair, atMostTwo, oneASide, ideal, uniform := modelIsPlanar(a), true, true, true, true, true
	for _, part := range modelPartsOf(a) {
		upper := 0
		for _, i := range part {
			upper += b2i(i < n)
		}
		lower := len(part) - upper
		pair = pair && len(part) == 2
		atMostTwo = atMostTwo && len(part) <= 2
		oneASide = oneASide && upper < 2 && lower < 2
		ideal = ideal && upper*lower == 0
		uniform = uniform && upper == lower
	}
	return []bool{planar, pair, planar && atMostTwo, atMostTwo && oneASide, pair && oneASide, ideal, uniform}
}

// modelInside returns the partition that a diagram of an even size goes around: points are in one part
// if the lines of the diagram, and short ones between both points that each point becomes, join them.
func modelInside(d impl.Diagram) impl.Partition {
	g := make(modelGraph, 2*d.Size)
	for i := range g {
		g.join(i, int(d.Mate[i]))
		g.join(i, i^1)
	}
	part := g.parts()
	return modelRelated(int(d.Size)/2, func(i int, j int) bool { return part[2*i] == part[2*j] })
}

// modelAround has the surrounding diagrams of all planar partitions.
var modelAround = func() map[impl.Partition]impl.Diagram {
	around := map[impl.Partition]impl.Diagram{}
	for n := int64(1); n <= 4; n++ {
		for _, d := range modelList(2 * n) {
			around[modelInside(d)] = d
		}
	}
	return around
}()

// modelPowers returns the number of the first power that comes again, and after how many factors more.
func modelPowers(a impl.Partition) []int64 {
	met := map[impl.Partition]int64{}
	power, factors := a, int64(1)
	for met[power] == 0 {
		met[power] = factors
		power, _ = modelStacked(a, power)
		factors++
	}
	return []int64{met[power], factors - met[power]}
}

// partition picks a partition of a size.
func (s *sampler) partition(n int64) impl.Partition {
	return modelPartitions[n][s.below(int64(len(modelPartitions[n])))]
}

// loose picks a partition of a size of which many parts have points of one side alone, so that its
// products often leave parts out.
func (s *sampler) loose(n int64) impl.Partition {
	marks := make([]int64, 2*n)
	for i := range marks {
		marks[i] = s.below(4) + 4*int64(b2i(i >= int(n)))
	}
	if s.below(3) == 0 {
		marks[s.below(n)], marks[n+s.below(n)] = 9, 9
	}
	return modelRelated(int(n), func(i int, j int) bool { return marks[i] == marks[j] })
}

// somePartitions returns all partitions of small sizes, and every thirteenth one of the size 4.
func somePartitions() []impl.Partition {
	list := slices.Concat(modelPartitions[:4]...)
	for i := 0; i < len(modelPartitions[4]); i += 13 {
		list = append(list, modelPartitions[4][i])
	}
	return append(list, modelPartitions[4][len(modelPartitions[4])-1])
}

// badPartitions returns structs that are no partitions.
func badPartitions() []impl.Partition {
	full := [8]byte{0, 1, 2, 3, 0, 1, 2, 3}
	return []impl.Partition{
		{},
		{Part: full},
		{Size: 5},
		{Size: 5, Part: full},
		{Size: 5, Part: [8]byte{0, 1, 2, 3, 4, 0, 1, 2}},
		{Size: 8, Part: full},
		{Size: -1},
		{Size: -2, Part: [8]byte{0, 1, 0, 1}},
		{Size: -4, Part: full},
		{Size: 9223372036854775807},
		{Size: -9223372036854775808},
		{Size: 4611686018427387905},
		{Size: 257},
		{Size: 260, Part: full},
		{Size: 1<<32 + 4, Part: full},
		{Size: 1, Part: [8]byte{1}},
		{Size: 1, Part: [8]byte{1, 0}},
		{Size: 1, Part: [8]byte{1, 1}},
		{Size: 1, Part: [8]byte{0, 2}},
		{Size: 1, Part: [8]byte{0, 255}},
		{Size: 1, Part: [8]byte{255, 0}},
		{Size: 1, Part: [8]byte{0, 1, 1}},
		{Size: 1, Part: [8]byte{0, 0, 1}},
		{Size: 1, Part: [8]byte{0, 1, 0, 0, 0, 0, 0, 1}},
		{Size: 2, Part: [8]byte{0, 2, 1, 0}},
		{Size: 2, Part: [8]byte{0, 1, 3, 2}},
		{Size: 2, Part: [8]byte{0, 1, 0, 3}},
		{Size: 2, Part: [8]byte{0, 0, 2, 1}},
		{Size: 2, Part: [8]byte{1, 0, 1, 0}},
		{Size: 2, Part: [8]byte{0, 1, 1, 0, 1}},
		{Size: 2, Part: [8]byte{0, 1, 0, 1, 0, 0, 1}},
		{Size: 2, Part: [8]byte{0, 1, 2, 3, 4}},
		{Size: 3, Part: [8]byte{0, 1, 2, 0, 1, 2, 0, 1}},
		{Size: 3, Part: [8]byte{0, 1, 2, 0, 1, 4}},
		{Size: 3, Part: [8]byte{0, 0, 0, 1, 1, 1, 1}},
		{Size: 3, Part: [8]byte{2, 1, 0, 2, 1, 0}},
		{Size: 4, Part: [8]byte{0, 1, 2, 3, 4, 5, 6, 8}},
		{Size: 4, Part: [8]byte{1, 2, 3, 4, 5, 6, 7, 8}},
		{Size: 4, Part: [8]byte{3, 2, 1, 0, 3, 2, 1, 0}},
		{Size: 4, Part: [8]byte{0, 1, 2, 3, 0, 1, 2, 5}},
		{Size: 4, Part: [8]byte{0, 0, 0, 0, 0, 0, 0, 2}},
		{Size: 4, Part: [8]byte{0, 1, 0, 1, 0, 3, 2, 0}},
		{Size: 4, Part: [8]byte{0, 1, 2, 3, 0, 1, 2, 128}},
	}
}

// partitioned returns the partition with a text.
func partitioned(t *testing.T, text string) impl.Partition {
	t.Helper()
	a, code := impl.ParsePartition(text)
	if code != impl.ErrNone || !impl.IsPartition(a) {
		t.Fatalf("ParsePartition(%q) = %v, %d", text, a, code)
	}
	return a
}

// lettered returns the text of a partition.
func lettered(t *testing.T, a impl.Partition) string {
	t.Helper()
	text, code := impl.PartitionText(a)
	if code != impl.ErrNone {
		t.Fatalf("PartitionText(%v): code %d", a, code)
	}
	return text
}

// stacked returns the product of partitions, and the number of parts that are left out.
func stacked(t *testing.T, a impl.Partition, b impl.Partition) (impl.Partition, int64) {
	t.Helper()
	c, left, code := impl.MultiplyPartitions(a, b)
	if code != impl.ErrNone || !impl.IsPartition(c) {
		t.Fatalf("MultiplyPartitions(%v, %v) = %v, %d, %d", a, b, c, left, code)
	}
	return c, left
}

// turnedOver returns the flip of a partition.
func turnedOver(t *testing.T, a impl.Partition) impl.Partition {
	t.Helper()
	b, code := impl.FlipPartition(a)
	if code != impl.ErrNone {
		t.Fatalf("FlipPartition(%v): code %d", a, code)
	}
	return b
}

// besides returns the union of partitions.
func besides(t *testing.T, a impl.Partition, b impl.Partition) impl.Partition {
	t.Helper()
	c, code := impl.UnionPartition(a, b)
	if code != impl.ErrNone || !impl.IsPartition(c) {
		t.Fatalf("UnionPartition(%v, %v) = %v, %d", a, b, c, code)
	}
	return c
}

// kinds returns the seven answers for a partition.
func kinds(t *testing.T, a impl.Partition) []bool {
	t.Helper()
	answers, code := impl.KindsOf(a)
	if code != impl.ErrNone || len(answers) != 7 {
		t.Fatalf("KindsOf(%v) = %v, %d", a, answers, code)
	}
	return answers
}

// lined returns the partition of a diagram.
func lined(t *testing.T, d impl.Diagram) impl.Partition {
	t.Helper()
	a, code := impl.PartitionOfDiagram(d)
	if code != impl.ErrNone || !impl.IsPartition(a) {
		t.Fatalf("PartitionOfDiagram(%v) = %v, %d", d, a, code)
	}
	return a
}

// surrounded returns the surrounding diagram of a partition.
func surrounded(t *testing.T, a impl.Partition) impl.Diagram {
	t.Helper()
	d, code := impl.SurroundingDiagram(a)
	if code != impl.ErrNone || !impl.IsDiagram(d) {
		t.Fatalf("SurroundingDiagram(%v) = %v, %d", a, d, code)
	}
	return d
}
