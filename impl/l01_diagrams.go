package impl

// Codes that the functions of all chapters return.
const (
	ErrNone = iota
	ErrInvalid
	ErrRange
	ErrLimit
	ErrNotFound
	ErrState
	ErrSyntax
)

// Limits of chapter 1.
const (
	MaxSize   = 8
	MaxListed = 6
)

// Diagram is described in chapter 1.
type Diagram struct {
	Size int64
	Mate [16]byte
}

// IsDiagram reports whether d is a diagram.
func IsDiagram(d Diagram) bool {
	if !isSize(d.Size) {
		return false
	}
	// A text belongs to one diagram only, so any other struct differs from the diagram of its text.
	same, ok := diagramOfText(textOfDiagram(d))
	return ok && same == d
}

// DiagramText returns the text of d, and ErrNone.
func DiagramText(d Diagram) (string, int64) {
	if !IsDiagram(d) {
		return "", ErrInvalid
	}
	return textOfDiagram(d), ErrNone
}

// ParseDiagram returns the diagram with a text, and ErrNone. Errors: ErrSyntax if there is none.
// (No other errors are returned.)
func ParseDiagram(text string) (Diagram, int64) {
	d, ok := diagramOfText(text)
	if !ok {
		return Diagram{}, ErrSyntax
	}
	return d, ErrNone
}

// UnitDiagram returns the unit of the size n, and ErrNone. (ErrInvalid is not returned.)
func UnitDiagram(n int64) (Diagram, int64) {
	if !isSize(n) {
		return Diagram{}, ErrRange
	}
	mates := newMates()
	for i := range n {
		joinPoints(mates, i, n+i)
	}
	return diagramOfMates(n, mates), ErrNone
}

// GeneratorDiagram returns the generator i of the size n, 2 to MaxSize, and ErrNone. (ErrInvalid
// is not returned.)
func GeneratorDiagram(n int64, i int64) (Diagram, int64) {
	if n < 2 || n > MaxSize || i < 0 || i > n-2 {
		return Diagram{}, ErrRange
	}
	mates := newMates()
	for k := range n {
		if k != i && k != i+1 {
			joinPoints(mates, k, n+k)
		}
	}
	joinPoints(mates, i, i+1)
	joinPoints(mates, n+i, n+i+1)
	return diagramOfMates(n, mates), ErrNone
}

// MultiplyDiagrams returns the product of d and e, the number of loops, and ErrNone.
func MultiplyDiagrams(d Diagram, e Diagram) (Diagram, int64, int64) {
	if !IsDiagram(d) || !IsDiagram(e) {
		return Diagram{}, 0, ErrInvalid
	}
	if d.Size != e.Size {
		return Diagram{}, 0, ErrRange
	}
	product, loops := productOfDiagrams(d, e)
	return product, loops, ErrNone
}

// FlipDiagram returns the flip, and ErrNone.
func FlipDiagram(d Diagram) (Diagram, int64) {
	n := d.Size
	return moveDiagram(d, func(point int64) int64 {
		return (point + n) % (2 * n)
	})
}

// MirrorDiagram returns the mirror, and ErrNone.
func MirrorDiagram(d Diagram) (Diagram, int64) {
	n := d.Size
	return moveDiagram(d, func(point int64) int64 {
		if point < n {
			return n - 1 - point
		}
		return 3*n - 1 - point
	})
}

// TurnDiagram returns the turn, and ErrNone.
func TurnDiagram(d Diagram) (Diagram, int64) {
	n := d.Size
	return moveDiagram(d, func(point int64) int64 {
		return pointAtPlace(n, (placeOfPoint(n, point)+1)%(2*n))
	})
}

// UnionDiagram returns the union, and ErrNone. Errors: ErrLimit if both sizes together are greater
// than MaxSize.
func UnionDiagram(d Diagram, e Diagram) (Diagram, int64) {
	if !IsDiagram(d) || !IsDiagram(e) {
		return Diagram{}, ErrInvalid
	}
	n, m := d.Size, e.Size
	if n+m > MaxSize {
		return Diagram{}, ErrLimit
	}
	mates := newMates()
	moveLines(mates, d, func(point int64) int64 {
		if point < n {
			return point
		}
		return point + m
	})
	moveLines(mates, e, func(point int64) int64 {
		if point < m {
			return point + n
		}
		return point + 2*n
	})
	return diagramOfMates(n+m, mates), ErrNone
}

// ThroughLines returns how many lines go through, and ErrNone.
func ThroughLines(d Diagram) (int64, int64) {
	if !IsDiagram(d) {
		return 0, ErrInvalid
	}
	lines := int64(0)
	for i := range d.Size {
		if int64(d.Mate[i]) >= d.Size {
			lines++
		}
	}
	return lines, ErrNone
}

// ClosureLoops returns the number of loops of the closure, and ErrNone.
func ClosureLoops(d Diagram) (int64, int64) {
	if !IsDiagram(d) {
		return 0, ErrInvalid
	}
	return loopsOfClosure(d), ErrNone
}

// AllDiagrams returns all diagrams of the size n in 1..MaxListed, in order, and ErrNone.
// (ErrInvalid is not returned.)
func AllDiagrams(n int64) ([]Diagram, int64) {
	if n < 1 || n > MaxListed {
		return nil, ErrRange
	}
	return listDiagrams(n), ErrNone
}

// NumberOfDiagram returns how many diagrams of its size come ahead of d, and ErrNone.
func NumberOfDiagram(d Diagram) (int64, int64) {
	if !IsDiagram(d) {
		return 0, ErrInvalid
	}
	return numbersOfDiagrams(d.Size)[d], ErrNone
}

// DiagramOfNumber returns the diagram of the size n ahead of which k diagrams come, and ErrNone.
// (ErrInvalid is not returned.) Errors: ErrRange also if there is none.
func DiagramOfNumber(n int64, k int64) (Diagram, int64) {
	if !isSize(n) || k < 0 {
		return Diagram{}, ErrRange
	}
	list := listDiagrams(n)
	if k >= int64(len(list)) {
		return Diagram{}, ErrRange
	}
	return list[k], ErrNone
}

// isSize reports whether diagrams can have a size.
func isSize(n int64) bool {
	return n >= 1 && n <= MaxSize
}

// newMates returns the list of mates of a diagram without lines, to which lines are added.
func newMates() []byte {
	return make([]byte, 2*MaxSize)
}

// joinPoints makes two points the ends of one line.
func joinPoints(mates []byte, a int64, b int64) {
	mates[a], mates[b] = byte(b), byte(a)
}

// diagramOfMates returns the diagram of the size n with a list of mates.
func diagramOfMates(n int64, mates []byte) Diagram {
	return Diagram{Size: n, Mate: [2 * MaxSize]byte(mates)}
}

// placeOfPoint returns the place of a point of a diagram of the size n.
func placeOfPoint(n int64, point int64) int64 {
	if point < n {
		return point
	}
	return 3*n - 1 - point
}

// pointAtPlace returns the point that has a place.
func pointAtPlace(n int64, place int64) int64 {
	// Lower points and their places count in opposite directions, so the same step leads back.
	return placeOfPoint(n, place)
}

// textOfDiagram returns the text of d. Its size has to be one; its mates may be any bytes, since
// IsDiagram asks for the text ahead of knowing them.
func textOfDiagram(d Diagram) string {
	n := d.Size
	letters := make([]byte, 2*n)
	for place := range 2 * n {
		mate := int64(d.Mate[pointAtPlace(n, place)])
		letters[place] = ')'
		if placeOfPoint(n, mate) > place {
			letters[place] = '('
		}
	}
	return string(letters)
}

// diagramOfText returns the diagram with a text, and whether there is one.
func diagramOfText(text string) (Diagram, bool) {
	n := int64(len(text) / 2)
	if len(text)%2 != 0 || !isSize(n) {
		return Diagram{}, false
	}
	mates := newMates()
	open := make([]int64, 0, 2*MaxSize)
	for place := range 2 * n {
		point := pointAtPlace(n, place)
		switch text[place] {
		case '(':
			open = append(open, point)
		case ')':
			if len(open) == 0 {
				return Diagram{}, false
			}
			joinPoints(mates, open[len(open)-1], point)
			open = open[:len(open)-1]
		default:
			return Diagram{}, false
		}
	}
	if len(open) > 0 {
		return Diagram{}, false
	}
	return diagramOfMates(n, mates), true
}

// productOfDiagrams returns the product of two diagrams of one size, and the number of loops.
func productOfDiagrams(d Diagram, e Diagram) (Diagram, int64) {
	n := d.Size
	mates := newMates()
	var met [MaxSize]bool
	for point := range 2 * n {
		mates[point] = byte(endOfLine(d, e, point, &met))
	}
	loops := int64(0)
	for i := range n {
		if !met[i] {
			loops++
			markLoop(d, e, i, &met)
		}
	}
	return diagramOfMates(n, mates), loops
}

// endOfLine goes from a point of the product of d and e along its line to the other end. It marks
// the points at which d and e meet on the way, so that those of loops are left.
func endOfLine(d Diagram, e Diagram, point int64, met *[MaxSize]bool) int64 {
	n := d.Size
	if point >= n {
		goto below
	}
above:
	point = int64(d.Mate[point])
	if point < n {
		return point
	}
	point -= n
	met[point] = true
below:
	point = int64(e.Mate[point])
	if point >= n {
		return point
	}
	met[point] = true
	point += n
	goto above
}

// markLoop marks all points of the loop of the product of d and e that has an upper point of e.
func markLoop(d Diagram, e Diagram, point int64, met *[MaxSize]bool) {
	for !met[point] {
		mate := int64(e.Mate[point])
		met[point], met[mate] = true, true
		point = int64(d.Mate[d.Size+mate]) - d.Size
	}
}

// loopsOfClosure returns the number of loops of the closure of a diagram.
func loopsOfClosure(d Diagram) int64 {
	n := d.Size
	var met [2 * MaxSize]bool
	loops := int64(0)
	for start := range 2 * n {
		if met[start] {
			continue
		}
		loops++
		for point := start; !met[point]; {
			mate := int64(d.Mate[point])
			met[point], met[mate] = true, true
			point = (mate + n) % (2 * n)
		}
	}
	return loops
}

// moveDiagram returns the diagram that arises if to leads each point of d to another one, and
// ErrNone, or ErrInvalid if d is not a diagram.
func moveDiagram(d Diagram, to func(point int64) int64) (Diagram, int64) {
	if !IsDiagram(d) {
		return Diagram{}, ErrInvalid
	}
	mates := newMates()
	moveLines(mates, d, to)
	return diagramOfMates(d.Size, mates), ErrNone
}

// moveLines adds the lines of d to a list of mates, at the points to which to leads their ends.
func moveLines(mates []byte, d Diagram, to func(point int64) int64) {
	for point := range 2 * d.Size {
		joinPoints(mates, to(point), to(int64(d.Mate[point])))
	}
}

// listDiagrams returns all diagrams of the size n, in order.
func listDiagrams(n int64) []Diagram {
	return appendDiagrams(nil, n, make([]byte, 0, 2*n), 0)
}

// appendDiagrams appends to a list, in order, all diagrams of the size n whose texts begin with
// some letters, in which so many brackets are open.
func appendDiagrams(list []Diagram, n int64, letters []byte, open int64) []Diagram {
	rest := 2*n - int64(len(letters))
	if rest == 0 {
		d, _ := diagramOfText(string(letters))
		return append(list, d)
	}
	if open < rest {
		list = appendDiagrams(list, n, append(letters, '('), open+1)
	}
	if open > 0 {
		list = appendDiagrams(list, n, append(letters, ')'), open-1)
	}
	return list
}

// numbersOfDiagrams returns, for each diagram of the size n, how many come ahead of it.
func numbersOfDiagrams(n int64) map[Diagram]int64 {
	list := listDiagrams(n)
	numbers := make(map[Diagram]int64, len(list))
	for k, d := range list {
		numbers[d] = int64(k)
	}
	return numbers
}
