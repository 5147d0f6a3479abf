package tests

import (
	"fmt"
	"math"
	"math/rand"
	"slices"
	"strings"
	"testing"

	"loop.example/flatarrays/impl"
)

func product(list []int) int {
	product := 1
	for _, n := range list {
		product *= n
	}
	return product
}

// shape returns the shape of an array, and whether it is regular.
func (a tree) shape() ([]int, bool) {
	shape := []int{}
	for _, lengths := range a.layout().Lengths {
		several := slices.Compact(lengths)
		if len(several) > 1 {
			return nil, false
		}
		shape = append(shape, sum(several))
	}
	return shape, true
}

// filledTree returns the array of a shape with numbers, and whether there is one that may have a text short enough.
func filledTree(shape []int, numbers []int) (tree, bool) {
	if len(shape) > 3 || !areWithin(shape, 401) || !areWithin(numbers, 10007) || product(shape) != len(numbers) {
		return tree{}, false
	}
	row := numbersTree(numbers...).parts
	for level, length := range slices.Backward(shape) {
		count := product(shape[:level])
		if count > 400 {
			return tree{}, false
		}
		var next []tree
		for range count {
			next = append(next, tree{len(shape) - level, 0, row[:length]})
			row = row[length:]
		}
		row = next
	}
	return row[0], true
}

// untilNone returns a shape with 0 in place of all that stands behind a 0.
func untilNone(shape []int) []int {
	if at := slices.Index(shape, 0); at >= 0 {
		return append(slices.Clone(shape[:at]), make([]int, len(shape)-at)...)
	}
	return shape
}

// rowsTree returns the array of the depth 2 with rows.
func rowsTree(rows [][]int) tree {
	a := listsTree()
	for _, row := range rows {
		a.parts = append(a.parts, numbersTree(row...))
	}
	return a
}

// rowsOf returns the rows of an array of the depth 2.
func rowsOf(a tree) [][]int {
	rows := [][]int{}
	for _, part := range a.parts {
		rows = append(rows, part.numbers())
	}
	return rows
}

// widthOf returns how many columns rows have, and whether all of them have as many.
func widthOf(rows [][]int) (int, bool) {
	width := 0
	for _, row := range rows {
		width = len(row)
	}
	return width, !slices.ContainsFunc(rows, func(row []int) bool { return len(row) != width })
}

// textIf returns the text of an array if there is to be one, and it is not too long; the empty string otherwise.
func textIf(valid bool, a tree) string {
	if !valid || a.textSize() > 400 {
		return ""
	}
	return a.text()
}

// expectText checks a text, or that there is none if it is to be empty.
func expectText(t *testing.T, name string, got string, ok bool, want string) {
	t.Helper()
	if got != want || ok != (want != "") {
		t.Errorf("%.200s = %.200q, %v, not %.200q", name, got, ok, want)
	}
}

// expectShape checks the shape of an array that is taken for one of each depth.
func expectShape(t *testing.T, a tree) {
	t.Helper()
	s := a.text()
	for _, depth := range append([]int{0, 1, 2, 3}, noDepths...) {
		want, regular := []int{}, a.fits(depth) && len(s) <= 400
		if regular {
			want, regular = a.as(depth).shape()
		}
		got, ok := impl.ShapeOf(s, depth)
		expectListIf(t, regular, fmt.Sprintf("ShapeOf(%.50q, %d)", s, depth), got, ok, want)
		if impl.IsRegular(s, depth) != regular {
			t.Errorf("IsRegular(%.50q, %d) is not %v", s, depth, regular)
		}
	}
}

// expectFilled checks a shape that is filled with numbers, right or not, and what the array then has.
func expectFilled(t *testing.T, shape []int, numbers []int) {
	t.Helper()
	a, valid := filledTree(shape, numbers)
	name := fmt.Sprintf("FillShape(%.50s, %.50s)", fmt.Sprint(shape), fmt.Sprint(numbers))
	s, ok := impl.FillShape(shape, numbers)
	expectText(t, name, s, ok, textIf(valid, a))
	if ok {
		got, ok := impl.NumbersOf(s, len(shape))
		expectList(t, "the numbers of "+name, got, ok, numbers)
		got, ok = impl.ShapeOf(s, len(shape))
		expectList(t, "the shape of "+name, got, ok, untilNone(shape))
	}
}

// expectReshaped checks the array with another shape and the numbers of one, whose text may be too long.
func expectReshaped(t *testing.T, a tree, shape []int) {
	t.Helper()
	filled, valid := filledTree(shape, a.numbers())
	s := a.text()
	got, ok := impl.ReshapeArray(s, a.depth, shape)
	expectText(t, fmt.Sprintf("ReshapeArray(%.50q, %d, %.50s)", s, a.depth, fmt.Sprint(shape)), got, ok, textIf(valid && len(s) <= 400, filled))
}

// expectTransposed checks rows, of one length or not, that are transposed.
func expectTransposed(t *testing.T, rows [][]int) {
	t.Helper()
	width, regular := widthOf(rows)
	columns := make([][]int, width)
	for _, row := range rows {
		for i := range columns {
			if regular {
				columns[i] = append(columns[i], row[i])
			}
		}
	}
	s := rowsTree(rows).text()
	got, ok := impl.TransposeArray(s)
	expectText(t, fmt.Sprintf("TransposeArray(%.50q)", s), got, ok, textIf(regular && len(s) <= 400, rowsTree(columns)))
}

// multiplied returns the product of rows, and whether they fit.
func multiplied(first [][]int, second [][]int) ([][]int, bool) {
	width, regular := widthOf(first)
	columns, regularToo := widthOf(second)
	if !regular || !regularToo || width != len(second) {
		return nil, false
	}
	rows := make([][]int, len(first))
	for i := range rows {
		rows[i] = make([]int, columns)
		for j := range columns {
			for k := range second {
				rows[i][j] += first[i][k] * second[k][j]
			}
			rows[i][j] %= 10007
		}
	}
	return rows, true
}

// expectMultiplied checks the product of rows that fit or do not.
func expectMultiplied(t *testing.T, first [][]int, second [][]int) {
	t.Helper()
	rows, valid := multiplied(first, second)
	a, b := rowsTree(first).text(), rowsTree(second).text()
	got, ok := impl.MultiplyArrays(a, b)
	expectText(t, fmt.Sprintf("MultiplyArrays(%.50q, %.50q)", a, b), got, ok, textIf(valid && len(a) <= 400 && len(b) <= 400, rowsTree(rows)))
}

// expectPadded checks rows of any lengths that are padded.
func expectPadded(t *testing.T, rows [][]int) {
	t.Helper()
	width := 0
	for _, row := range rows {
		width = max(width, len(row))
	}
	padded := make([][]int, len(rows))
	for i, row := range rows {
		padded[i] = make([]int, width)
		copy(padded[i], row)
	}
	s := rowsTree(rows).text()
	got, ok := impl.PadArray(s)
	expectText(t, fmt.Sprintf("PadArray(%.50q)", s), got, ok, textIf(len(s) <= 400, rowsTree(padded)))
}

// expectCut checks rows that are cut to lengths, right or not.
func expectCut(t *testing.T, rows [][]int, lengths []int) {
	t.Helper()
	valid := len(lengths) == len(rows)
	left := [][]int{}
	for i, length := range lengths {
		valid = valid && 0 <= length && length <= len(rows[i])
		if valid {
			left = append(left, rows[i][:length])
		}
	}
	s := rowsTree(rows).text()
	got, ok := impl.CutArray(s, lengths)
	expectText(t, fmt.Sprintf("CutArray(%.50q, %.50s)", s, fmt.Sprint(lengths)), got, ok, textIf(valid && len(s) <= 400, rowsTree(left)))
}

// expectNoRows checks that no function takes s as an array of the depth 2.
func expectNoRows(t *testing.T, s string) {
	t.Helper()
	got, ok := impl.TransposeArray(s)
	expectText(t, fmt.Sprintf("TransposeArray(%.50q)", s), got, ok, "")
	got, ok = impl.PadArray(s)
	expectText(t, fmt.Sprintf("PadArray(%.50q)", s), got, ok, "")
	for _, other := range []string{"[]", "[[]]", "[[1]]", "[[1],[1]]", "[[1,1]]", s} {
		got, ok := impl.MultiplyArrays(s, other)
		expectText(t, fmt.Sprintf("MultiplyArrays(%.50q, %.50q)", s, other), got, ok, "")
		got, ok = impl.MultiplyArrays(other, s)
		expectText(t, fmt.Sprintf("MultiplyArrays(%.50q, %.50q)", other, s), got, ok, "")
	}
	for _, lengths := range [][]int{nil, {0}, {1}, {0, 0}, {1, 1}} {
		got, ok := impl.CutArray(s, lengths)
		expectText(t, fmt.Sprintf("CutArray(%.50q, %v)", s, lengths), got, ok, "")
	}
}

// expectNotRegular checks that s is not taken as a regular array of a depth.
func expectNotRegular(t *testing.T, s string, depth int) {
	t.Helper()
	got, ok := impl.ShapeOf(s, depth)
	expectNoList(t, fmt.Sprintf("ShapeOf(%.50q, %d)", s, depth), got, ok)
	if impl.IsRegular(s, depth) {
		t.Errorf("IsRegular(%.50q, %d)", s, depth)
	}
}

// expectNoShape checks that no function takes s as an array of a depth.
func expectNoShape(t *testing.T, s string, depth int) {
	t.Helper()
	expectNotRegular(t, s, depth)
	for _, shape := range [][]int{nil, {0}, {1}, {2}, {1, 1}, {0, 0}} {
		got, ok := impl.ReshapeArray(s, depth, shape)
		expectText(t, fmt.Sprintf("ReshapeArray(%.50q, %d, %v)", s, depth, shape), got, ok, "")
	}
	if depth == 2 {
		expectNoRows(t, s)
	}
}

func TestShapesOfRegularArrays(t *testing.T) {
	for _, c := range []struct {
		s     string
		depth int
		want  []int
	}{
		{"0", 0, nil},
		{"10006", 0, nil},
		{"[]", 1, []int{0}},
		{"[7]", 1, []int{1}},
		{"[1,2,3]", 1, []int{3}},
		{"[]", 2, []int{0, 0}},
		{"[[]]", 2, []int{1, 0}},
		{"[[],[]]", 2, []int{2, 0}},
		{"[[5]]", 2, []int{1, 1}},
		{"[[1,2,3]]", 2, []int{1, 3}},
		{"[[1],[2],[3]]", 2, []int{3, 1}},
		{"[[1,2],[3,4],[5,6]]", 2, []int{3, 2}},
		{"[]", 3, []int{0, 0, 0}},
		{"[[]]", 3, []int{1, 0, 0}},
		{"[[],[]]", 3, []int{2, 0, 0}},
		{"[[[]]]", 3, []int{1, 1, 0}},
		{"[[[],[],[]]]", 3, []int{1, 3, 0}},
		{"[[[],[]],[[],[]],[[],[]]]", 3, []int{3, 2, 0}},
		{"[[[8]]]", 3, []int{1, 1, 1}},
		{"[[[1,2,3,4],[5,6,7,8],[9,10,11,12]],[[0,0,0,0],[0,0,0,0],[0,0,0,0]]]", 3, []int{2, 3, 4}},
		{onesOf(399, 1), 1, []int{199}},
		{onesOf(400, 1), 1, []int{199}},
		{onesOf(400, 2), 2, []int{1, 198}},
		{onesOf(400, 3), 3, []int{1, 1, 197}},
	} {
		got, ok := impl.ShapeOf(c.s, c.depth)
		expectList(t, fmt.Sprintf("ShapeOf(%.50q, %d)", c.s, c.depth), got, ok, c.want)
		if !impl.IsRegular(c.s, c.depth) {
			t.Errorf("%.50q of the depth %d is not regular", c.s, c.depth)
		}
	}
}

func TestArraysThatAreNotRegular(t *testing.T) {
	for _, c := range []struct {
		s     string
		depth int
	}{
		{"[[1],[]]", 2},
		{"[[],[1]]", 2},
		{"[[],[],[1]]", 2},
		{"[[1,2],[3]]", 2},
		{"[[1],[2,3]]", 2},
		{"[[1,2],[3,4],[5]]", 2},
		{"[[1],[2,3],[4]]", 2},
		{"[[1,2],[3],[4,5]]", 2},
		{"[[[]],[]]", 3},
		{"[[],[[]]]", 3},
		{"[[[],[]],[[]]]", 3},
		{"[[[1],[]]]", 3},
		{"[[[],[1]]]", 3},
		{"[[[]],[[1]]]", 3},
		{"[[[1]],[[]]]", 3},
		{"[[[1]],[]]", 3},
		{"[[[1],[2]],[[3]]]", 3},
		{"[[[1],[2]],[[3,4]]]", 3},
		{"[[[1,2],[3]],[[4,5],[6]]]", 3},
		{"[[[1],[1]],[[1,1],[1,1]]]", 3},
		{"[[[1,2],[3,4]],[[5,6],[7]]]", 3},
	} {
		for depth := range 4 {
			expectNotRegular(t, c.s, depth)
		}
		if !impl.ArrayValid(c.s, c.depth) {
			t.Errorf("%q is no array", c.s)
		}
		if c.depth == 2 {
			got, ok := impl.TransposeArray(c.s)
			expectText(t, "TransposeArray", got, ok, "")
			for _, other := range []string{"[]", "[[]]", "[[1]]", "[[1,2]]", "[[1],[2]]", "[[1,2],[3,4]]", "[[1],[2],[3]]", c.s} {
				got, ok := impl.MultiplyArrays(c.s, other)
				expectText(t, "MultiplyArrays", got, ok, "")
				got, ok = impl.MultiplyArrays(other, c.s)
				expectText(t, "MultiplyArrays", got, ok, "")
			}
		}
	}
}

// seriesTo returns the numbers from 0 to one less than a count.
func seriesTo(count int) []int {
	list := make([]int, count)
	for i := range list {
		list[i] = i
	}
	return list
}

// smallTrees returns the arrays of a depth with at most so many parts each.
func smallTrees(depth int, most int) []tree {
	if depth == 0 {
		return []tree{numberTree(1)}
	}
	inner := smallTrees(depth-1, most)
	var trees []tree
	for _, at := range listsOf(most, seriesTo(len(inner))) {
		a := tree{depth: depth}
		for _, index := range at {
			a.parts = append(a.parts, inner[index])
		}
		trees = append(trees, a)
	}
	return trees
}

func TestShapesOfAllSmallArrays(t *testing.T) {
	for depth := range 4 {
		regular := 0
		for _, a := range smallTrees(depth, 2) {
			expectShape(t, a)
			regular += oneFor(impl.IsRegular(a.text(), depth))
		}
		// Of each 1 or 2 parts have any shape of the depth less by one, and one has no parts.
		if want := []int{1, 3, 7, 15}[depth]; regular != want {
			t.Errorf("%d arrays of the depth %d are regular, not %d", regular, depth, want)
		}
	}
	for _, a := range smallTrees(2, 4) {
		expectShape(t, a)
	}
}

func TestFillShape(t *testing.T) {
	for _, c := range []struct {
		shape, numbers []int
		want           string
	}{
		{nil, []int{7}, "7"},
		{[]int{}, []int{10006}, "10006"},
		{nil, nil, ""},
		{nil, []int{7, 8}, ""},
		{[]int{0}, nil, "[]"},
		{[]int{0}, []int{1}, ""},
		{[]int{1}, []int{0}, "[0]"},
		{[]int{3}, []int{5, 10006, 0}, "[5,10006,0]"},
		{[]int{3}, []int{5, 6}, ""},
		{[]int{3}, []int{5, 6, 7, 8}, ""},
		{[]int{3, 2}, []int{1, 2, 3, 4, 5, 6}, "[[1,2],[3,4],[5,6]]"},
		{[]int{2, 3}, []int{1, 2, 3, 4, 5, 6}, "[[1,2,3],[4,5,6]]"},
		{[]int{1, 6}, []int{1, 2, 3, 4, 5, 6}, "[[1,2,3,4,5,6]]"},
		{[]int{6, 1}, []int{1, 2, 3, 4, 5, 6}, "[[1],[2],[3],[4],[5],[6]]"},
		{[]int{3, 2}, []int{1, 2, 3, 4, 5}, ""},
		{[]int{3, 2}, []int{1, 2, 3, 4, 5, 6, 7}, ""},
		{[]int{2, 1, 3}, []int{1, 2, 3, 4, 5, 6}, "[[[1,2,3]],[[4,5,6]]]"},
		{[]int{1, 3, 2}, []int{1, 2, 3, 4, 5, 6}, "[[[1,2],[3,4],[5,6]]]"},
		{[]int{2, 2, 2}, []int{1, 2, 3, 4, 5, 6, 7, 8}, "[[[1,2],[3,4]],[[5,6],[7,8]]]"},
		{[]int{1, 1, 1, 1}, []int{1}, ""},
		{[]int{1, 1, 1, 0}, nil, ""},
		{[]int{0, 0, 0, 0}, nil, ""},
	} {
		got, ok := impl.FillShape(c.shape, c.numbers)
		expectText(t, fmt.Sprintf("FillShape(%v, %v)", c.shape, c.numbers), got, ok, c.want)
		expectFilled(t, c.shape, c.numbers)
	}
}

func TestFillShapesWithoutNumbers(t *testing.T) {
	for _, c := range []struct {
		shape []int
		want  string
	}{
		{[]int{0}, "[]"},
		{[]int{0, 0}, "[]"},
		{[]int{0, 5}, "[]"},
		{[]int{0, 400}, "[]"},
		{[]int{1, 0}, "[[]]"},
		{[]int{2, 0}, "[[],[]]"},
		{[]int{0, 0, 0}, "[]"},
		{[]int{0, 0, 400}, "[]"},
		{[]int{0, 400, 0}, "[]"},
		{[]int{0, 400, 400}, "[]"},
		{[]int{2, 0, 0}, "[[],[]]"},
		{[]int{2, 0, 400}, "[[],[]]"},
		{[]int{1, 3, 0}, "[[[],[],[]]]"},
		{[]int{3, 2, 0}, "[[[],[]],[[],[]],[[],[]]]"},
		{[]int{133, 0}, "[[]" + strings.Repeat(",[]", 132) + "]"},
		{[]int{134, 0}, ""},
		{[]int{133, 0, 400}, "[[]" + strings.Repeat(",[]", 132) + "]"},
		{[]int{134, 0, 400}, ""},
		{[]int{400, 0}, ""},
		{[]int{1, 132, 0}, "[[[]" + strings.Repeat(",[]", 131) + "]]"},
		{[]int{1, 133, 0}, ""},
		{[]int{79, 1, 0}, "[[[]]" + strings.Repeat(",[[]]", 78) + "]"},
		{[]int{80, 1, 0}, ""},
		{[]int{400, 400, 0}, ""},
		{[]int{400, 0, 400}, ""},
		{[]int{20, 20, 0}, ""},
	} {
		got, ok := impl.FillShape(c.shape, nil)
		expectText(t, fmt.Sprintf("FillShape(%v, nil)", c.shape), got, ok, c.want)
		for count := range 3 {
			expectFilled(t, c.shape, make([]int, count))
		}
		got, ok = impl.ReshapeArray("[[],[],[]]", 3, c.shape)
		expectText(t, fmt.Sprintf("ReshapeArray(%v)", c.shape), got, ok, c.want)
		got, ok = impl.FillShape(c.shape, []int{0})
		expectText(t, fmt.Sprintf("FillShape(%v, 0)", c.shape), got, ok, "")
	}
}

func TestAllSmallShapesFilled(t *testing.T) {
	numbers := []int{}
	for i := range 30 {
		numbers = append(numbers, i*345)
	}
	filled := 0
	for _, shape := range listsOf(4, []int{-1, 0, 1, 2, 3}) {
		for count := range numbers {
			expectFilled(t, shape, numbers[:count:count])
			_, ok := impl.FillShape(shape, numbers[:count])
			filled += oneFor(ok)
		}
	}
	// One for each shape of 0 to 3 levels.
	if want := 1 + 4 + 16 + 64; filled != want {
		t.Errorf("%d shapes are filled, not %d", filled, want)
	}
}

func TestShapesThatAreNone(t *testing.T) {
	for _, n := range []int{-1, -2, 401, 402, 10007, 1 << 31, 1 << 32, 1 << 62, math.MinInt, math.MinInt + 1, math.MaxInt} {
		for _, shape := range [][]int{{n}, {n, 0}, {0, n}, {n, 1}, {1, n}, {n, n}, {n, 1, 0}, {1, n, 0}, {0, 1, n}, {n, n, n}, {n, -1}, {-1, n, -1}, {0, 0, n}, {2, n, 1}, {1, 1, n}} {
			for _, count := range []int{0, 1, 2, 4, 400, 401, 402} {
				expectFilled(t, shape, make([]int, count))
				got, ok := impl.FillShape(shape, make([]int, count))
				expectText(t, fmt.Sprintf("FillShape(%v, %d zeros)", shape, count), got, ok, "")
			}
			for _, s := range []string{"[]", "[1]", "[1,2]"} {
				got, ok := impl.ReshapeArray(s, 1, shape)
				expectText(t, fmt.Sprintf("ReshapeArray(%q, 1, %v)", s, shape), got, ok, "")
			}
		}
	}
	for _, n := range []int{0, 1, 2, 400, -1, math.MaxInt} {
		for _, levels := range []int{4, 5, 32, 64, 400, 401, 5000} {
			for count := range 3 {
				got, ok := impl.FillShape(slices.Repeat([]int{n}, levels), make([]int, count))
				expectText(t, fmt.Sprintf("FillShape of %d levels", levels), got, ok, "")
			}
			got, ok := impl.ReshapeArray("1", 0, slices.Repeat([]int{n}, levels))
			expectText(t, fmt.Sprintf("ReshapeArray to %d levels", levels), got, ok, "")
		}
	}
}

func TestFillShapeWithNoData(t *testing.T) {
	for _, n := range []int{-1, 10007, 10008, math.MinInt, math.MaxInt} {
		for _, shape := range [][]int{nil, {1}, {3}, {1, 1}, {2, 3}, {3, 2}, {1, 1, 1}, {1, 2, 2}, {2, 2, 1}} {
			for at := range product(shape) {
				numbers := make([]int, product(shape))
				expectFilled(t, shape, numbers)
				numbers[at] = n
				got, ok := impl.FillShape(shape, numbers)
				expectText(t, fmt.Sprintf("FillShape(%v, %v)", shape, numbers), got, ok, "")
			}
		}
	}
	for _, count := range []int{399, 400, 401, 402, 100000} {
		for _, shape := range [][]int{nil, {0}, {1}, {400}, {400, 1}, {20, 20}, {1, 400, 1}, {400, 400, 400}} {
			got, ok := impl.FillShape(shape, make([]int, count))
			expectText(t, fmt.Sprintf("FillShape(%v, %d zeros)", shape, count), got, ok, "")
		}
	}
}

// onesAnd returns so many ones with so many digits behind some of them.
func onesAnd(count int, digits int) []int {
	numbers := slices.Repeat([]int{1}, count)
	for i := range numbers {
		for numbers[i] < 10000 && digits > 0 {
			numbers[i] *= 10
			digits--
		}
	}
	return numbers
}

func TestFillShapesToTheLimit(t *testing.T) {
	for _, shape := range [][]int{
		{199}, {198}, {150}, {100}, {80}, {1, 198}, {2, 98}, {3, 65}, {5, 30}, {99, 1}, {66, 2}, {9, 9}, {10, 10},
		{1, 1, 197}, {1, 2, 97}, {2, 1, 80}, {1, 97, 1}, {1, 98, 1}, {57, 1, 1}, {66, 1, 1}, {5, 5, 5}, {4, 4, 5}, {13, 3, 2},
	} {
		size, _ := filledTree(shape, onesAnd(product(shape), 0))
		digits := 400 - size.textSize()
		if digits < 0 || digits+2 > 4*product(shape) {
			t.Errorf("%v has no text of 400 bytes", shape)
			continue
		}
		for more := range 3 {
			numbers := onesAnd(product(shape), digits+more)
			expectFilled(t, shape, numbers)
			s, ok := impl.FillShape(shape, numbers)
			if ok != (more == 0) || ok && len(s) != 400 {
				t.Errorf("FillShape(%v) = %d bytes, %v, with %d more than 400", shape, len(s), ok, more)
			}
		}
	}
}

func TestReshapeArray(t *testing.T) {
	for _, c := range []struct {
		s     string
		depth int
		shape []int
		want  string
	}{
		{"[[1,2],[3,4],[5,6]]", 2, []int{2, 3}, "[[1,2,3],[4,5,6]]"},
		{"[[1,2],[3,4],[5,6]]", 2, []int{3, 2}, "[[1,2],[3,4],[5,6]]"},
		{"[[1,2],[3,4],[5,6]]", 2, []int{6}, "[1,2,3,4,5,6]"},
		{"[[1,2],[3,4],[5,6]]", 2, []int{1, 3, 2}, "[[[1,2],[3,4],[5,6]]]"},
		{"[[1,2],[3,4],[5,6]]", 2, []int{5}, ""},
		{"[[1,2],[3,4],[5,6]]", 2, []int{7}, ""},
		{"[[1,2],[3,4],[5,6]]", 2, []int{2, 0, 3}, ""},
		{"[[1,2],[3,4],[5,6]]", 2, nil, ""},
		{"[[1,2],[3,4],[5,6]]", 1, []int{6}, ""},
		{"[[1,2],[3,4],[5,6]]", 3, []int{6}, ""},
		{"[[1,2],[],[3]]", 2, []int{3}, "[1,2,3]"},
		{"[[1,2],[],[3]]", 2, []int{3, 1}, "[[1],[2],[3]]"},
		{"[[[1],[]],[],[[2,3],[4]]]", 3, []int{2, 2}, "[[1,2],[3,4]]"},
		{"[[[1],[]],[],[[2,3],[4]]]", 3, []int{2, 2, 1}, "[[[1],[2]],[[3],[4]]]"},
		{"7", 0, nil, "7"},
		{"7", 0, []int{1}, "[7]"},
		{"7", 0, []int{1, 1}, "[[7]]"},
		{"7", 0, []int{1, 1, 1}, "[[[7]]]"},
		{"7", 0, []int{1, 1, 1, 1}, ""},
		{"7", 0, []int{0}, ""},
		{"[[[7]]]", 3, nil, "7"},
		{"[[[]],[[],[7]]]", 3, []int{}, "7"},
		{"[]", 1, nil, ""},
		{"[]", 1, []int{0}, "[]"},
		{"[]", 1, []int{3, 0}, "[[],[],[]]"},
		{"[]", 1, []int{0, 3}, "[]"},
		{"[]", 3, []int{1, 2, 0}, "[[[],[]]]"},
		{"[]", 0, []int{0}, ""},
		{"[[],[]]", 2, []int{0}, "[]"},
		{"[[],[]]", 2, []int{1, 0, 4}, "[[]]"},
		{"[[],[]]", 2, []int{2}, ""},
		{"[[],[[],[]]]", 3, []int{2, 0}, "[[],[]]"},
	} {
		got, ok := impl.ReshapeArray(c.s, c.depth, c.shape)
		expectText(t, fmt.Sprintf("ReshapeArray(%q, %d, %v)", c.s, c.depth, c.shape), got, ok, c.want)
	}
}

func TestReshapeLongArrays(t *testing.T) {
	row := onesTree(399, 1)
	for _, shape := range [][]int{{199}, {1, 199}, {199, 1}, {198}, {200}, {199, 199}, {1, 1, 199}, {0, 199}} {
		expectReshaped(t, row, shape)
	}
	for _, shape := range [][]int{{99}, {99, 1}, {33, 3}, {9, 11}, {3, 33}, {99, 1, 1}, {33, 3, 1}, {3, 33, 1}, {33, 1, 3}, {1, 99, 1}, {1, 1, 99}, {3, 3, 11}} {
		for digits := range 20 {
			expectReshaped(t, numbersTree(onesAnd(99, digits)...), shape)
		}
	}
	for size := range 4 {
		for depth := 1; depth < 4; depth++ {
			a := onesTree(398+size, depth)
			expectReshaped(t, a, []int{len(a.numbers())})
			expectReshaped(t, a, []int{1, len(a.numbers())})
		}
	}
}

func TestTransposeArray(t *testing.T) {
	for s, want := range map[string]string{
		"[]":                                     "[]",
		"[[]]":                                   "[]",
		"[[],[],[]]":                             "[]",
		"[[5]]":                                  "[[5]]",
		"[[1,2,3]]":                              "[[1],[2],[3]]",
		"[[1],[2],[3]]":                          "[[1,2,3]]",
		"[[1,2],[3,4]]":                          "[[1,3],[2,4]]",
		"[[1,2],[3,4],[5,6]]":                    "[[1,3,5],[2,4,6]]",
		"[[1,3,5],[2,4,6]]":                      "[[1,2],[3,4],[5,6]]",
		"[[0,10006,7],[8,9,10]]":                 "[[0,8],[10006,9],[7,10]]",
		"[[1,2,3],[4,5,6],[7,8,9]]":              "[[1,4,7],[2,5,8],[3,6,9]]",
		"[[1],[]]":                               "",
		"[[1,2],[3]]":                            "",
		"[1,2]":                                  "",
		"[[[1]]]":                                "",
		"7":                                      "",
		"[[1,2],[3,4]":                           "",
		"[[1,2],[3,04]]":                         "",
		"[[1,2],[3,10007]]":                      "",
		"[[1, 2],[3,4]]":                         "",
		"[[]" + strings.Repeat(",[]", 132) + "]": "[]",
		"[[]" + strings.Repeat(",[]", 133) + "]": "",
	} {
		got, ok := impl.TransposeArray(s)
		expectText(t, fmt.Sprintf("TransposeArray(%.50q)", s), got, ok, want)
	}
}

func TestTransposeToTheLimit(t *testing.T) {
	for _, c := range []struct{ count, digits, bytes int }{{99, 0, 397}, {99, 3, 400}, {99, 4, 0}, {100, 0, 0}, {98, 7, 400}, {98, 8, 0}, {198, 0, 0}} {
		row := onesAnd(c.count, c.digits)
		expectTransposed(t, [][]int{row})
		got, ok := impl.TransposeArray(rowsTree([][]int{row}).text())
		if len(got) != c.bytes || ok != (c.bytes > 0) {
			t.Errorf("TransposeArray of %d numbers and %d digits = %d bytes, %v", c.count, c.digits, len(got), ok)
		}
	}
	for count := range 70 {
		row := onesAnd(count, 9)
		expectTransposed(t, [][]int{row, row})
	}
	for count := range 105 {
		column := make([][]int, count)
		for i, n := range onesAnd(count, 3) {
			column[i] = []int{n}
		}
		expectTransposed(t, column)
	}
}

func TestMultiplyArrays(t *testing.T) {
	for _, c := range []struct{ a, b, want string }{
		{"[[1,2],[3,4]]", "[[5,6],[7,8]]", "[[19,22],[43,50]]"},
		{"[[5,6],[7,8]]", "[[1,2],[3,4]]", "[[23,34],[31,46]]"},
		{"[[1,2],[3,4]]", "[[5],[6]]", "[[17],[39]]"},
		{"[[1,2,3]]", "[[4],[5],[6]]", "[[32]]"},
		{"[[4],[5],[6]]", "[[1,2,3]]", "[[4,8,12],[5,10,15],[6,12,18]]"},
		{"[[1,0],[0,1]]", "[[7,8,9],[4,5,6]]", "[[7,8,9],[4,5,6]]"},
		{"[[0,1],[1,0]]", "[[7,8,9],[4,5,6]]", "[[4,5,6],[7,8,9]]"},
		{"[[0,0]]", "[[7],[8]]", "[[0]]"},
		{"[[3]]", "[[4]]", "[[12]]"},
		{"[[100]]", "[[101]]", "[[93]]"},
		{"[[100]]", "[[100]]", "[[10000]]"},
		{"[[5004,5003]]", "[[1],[1]]", "[[0]]"},
		{"[[5003,5003]]", "[[1],[1]]", "[[10006]]"},
		{"[[10006]]", "[[10006]]", "[[1]]"},
		{"[[10006,10006]]", "[[10006],[10006]]", "[[2]]"},
		{"[[10006,10006,10006]]", "[[1],[1],[1]]", "[[10004]]"},
		{"[]", "[]", "[]"},
		{"[]", "[[]]", ""},
		{"[]", "[[1]]", ""},
		{"[]", "[[1,2],[3,4]]", ""},
		{"[[]]", "[]", "[[]]"},
		{"[[],[]]", "[]", "[[],[]]"},
		{"[[]]", "[[]]", ""},
		{"[[]]", "[[1]]", ""},
		{"[[1]]", "[]", ""},
		{"[[1,2]]", "[]", ""},
		{"[[1]]", "[[]]", "[[]]"},
		{"[[1],[2],[3]]", "[[]]", "[[],[],[]]"},
		{"[[1,2],[3,4]]", "[[],[]]", "[[],[]]"},
		{"[[1,2]]", "[[]]", ""},
		{"[[1]]", "[[],[]]", ""},
		{"[[1,2]]", "[[1,2]]", ""},
		{"[[1],[2]]", "[[1],[2]]", ""},
		{"[[1,2,3]]", "[[1],[2]]", ""},
		{"[[1,2]]", "[[1],[2],[3]]", ""},
		{"[[1],[]]", "[[1]]", ""},
		{"[[1]]", "[[1],[]]", ""},
		{"[[1,2],[3]]", "[[1],[2]]", ""},
		{"[[1,2]]", "[[1],[2,3]]", ""},
		{"[1,2]", "[[1],[2]]", ""},
		{"[[1,2]]", "[1,2]", ""},
		{"2", "3", ""},
		{"[[[1]]]", "[[1]]", ""},
	} {
		got, ok := impl.MultiplyArrays(c.a, c.b)
		expectText(t, fmt.Sprintf("MultiplyArrays(%q, %q)", c.a, c.b), got, ok, c.want)
	}
}

func TestMultiplyToTheLimit(t *testing.T) {
	for _, c := range []struct{ first, second [][]int }{
		{[][]int{{1}}, [][]int{onesAnd(198, 1)}},
		{[][]int{{10}}, [][]int{onesAnd(198, 0)}},
		{[][]int{{1}, {1}, {1}}, [][]int{onesAnd(65, 1)}},
		{[][]int{{1}, {1}, {1}}, [][]int{onesAnd(65, 2)}},
		{[][]int{{1}, {0}}, [][]int{onesAnd(98, 3)}},
		{[][]int{{1}, {0}}, [][]int{append(onesAnd(97, 0), 10000)}},
		{[][]int{{1}, {0}}, [][]int{onesAnd(98, 2)}},
		{slices.Repeat([][]int{{1}}, 4), [][]int{onesAnd(49, 0)}},
		{slices.Repeat([][]int{{1}}, 4), [][]int{onesAnd(48, 1)}},
		{slices.Repeat([][]int{{1}}, 99), [][]int{{1}}},
		{slices.Repeat([][]int{{1}}, 99), [][]int{{1, 1}}},
		{slices.Repeat([][]int{{1}}, 99), [][]int{onesAnd(198, 0)}},
		{slices.Repeat([][]int{{}}, 133), nil},
		{slices.Repeat([][]int{{}}, 134), nil},
		{slices.Repeat([][]int{{1}}, 99), [][]int{{}}},
		{[][]int{onesAnd(133, 0)}, slices.Repeat([][]int{{}}, 133)},
		{[][]int{onesAnd(134, 0)}, slices.Repeat([][]int{{}}, 134)},
		{[][]int{onesAnd(99, 0)}, slices.Repeat([][]int{{1}}, 99)},
		{[][]int{onesAnd(100, 0)}, slices.Repeat([][]int{{1}}, 100)},
		{[][]int{slices.Repeat([]int{10006}, 60)}, slices.Repeat([][]int{{10006}}, 49)},
		{[][]int{slices.Repeat([]int{10006}, 49)}, slices.Repeat([][]int{{10006}}, 49)},
		{[][]int{slices.Repeat([]int{5003}, 49)}, slices.Repeat([][]int{{10006}}, 49)},
	} {
		expectMultiplied(t, c.first, c.second)
	}
	got, ok := impl.MultiplyArrays("[[1],[0]]", rowsTree([][]int{onesAnd(98, 3)}).text())
	if len(got) != 400 || !ok {
		t.Errorf("MultiplyArrays = %d bytes, %v", len(got), ok)
	}
	for width := range 70 {
		for count := range 7 {
			expectMultiplied(t, slices.Repeat([][]int{{1}}, count), [][]int{onesAnd(width, 1)})
		}
	}
}

func TestPadArray(t *testing.T) {
	for s, want := range map[string]string{
		"[]":                  "[]",
		"[[]]":                "[[]]",
		"[[],[]]":             "[[],[]]",
		"[[1]]":               "[[1]]",
		"[[1],[]]":            "[[1],[0]]",
		"[[],[1]]":            "[[0],[1]]",
		"[[0],[]]":            "[[0],[0]]",
		"[[1,2],[],[3]]":      "[[1,2],[0,0],[3,0]]",
		"[[3],[],[1,2]]":      "[[3,0],[0,0],[1,2]]",
		"[[1],[2,3,4],[5,6]]": "[[1,0,0],[2,3,4],[5,6,0]]",
		"[[1,2],[3,4]]":       "[[1,2],[3,4]]",
		"[[10006],[7,10006]]": "[[10006,0],[7,10006]]",
		"[1]":                 "",
		"7":                   "",
		"[[[1],[]]]":          "",
		"[[1],[2,]]":          "",
		"[[1],[]":             "",
		"[[1],[2,10007]]":     "",
	} {
		got, ok := impl.PadArray(s)
		expectText(t, fmt.Sprintf("PadArray(%q)", s), got, ok, want)
	}
}

func TestPadToTheLimit(t *testing.T) {
	for _, c := range []struct{ rows, width, digits, bytes int }{{3, 65, 3, 400}, {3, 65, 4, 0}, {2, 98, 3, 400}, {2, 98, 4, 0}, {4, 48, 7, 400}, {4, 49, 0, 0}, {50, 3, 0, 0}, {49, 3, 7, 400}, {49, 3, 8, 0}, {130, 1, 0, 0}, {99, 1, 3, 400}, {99, 1, 4, 0}} {
		rows := make([][]int, c.rows)
		rows[c.rows/2] = onesAnd(c.width, c.digits)
		expectPadded(t, rows)
		got, ok := impl.PadArray(rowsTree(rows).text())
		if len(got) != c.bytes || ok != (c.bytes > 0) {
			t.Errorf("PadArray of %v = %d bytes, %v", c, len(got), ok)
		}
	}
	for width := range 196 {
		expectPadded(t, [][]int{onesAnd(width, 0), {}})
		expectPadded(t, [][]int{{}, onesAnd(width, 2), {1}})
	}
}

func TestCutArray(t *testing.T) {
	for _, c := range []struct {
		s       string
		lengths []int
		want    string
	}{
		{"[]", nil, "[]"},
		{"[]", []int{0}, ""},
		{"[[]]", []int{0}, "[[]]"},
		{"[[]]", []int{1}, ""},
		{"[[]]", nil, ""},
		{"[[],[]]", []int{0, 0}, "[[],[]]"},
		{"[[1,2],[0,0],[3,0]]", []int{2, 0, 1}, "[[1,2],[],[3]]"},
		{"[[1,2],[0,0],[3,0]]", []int{2, 2, 2}, "[[1,2],[0,0],[3,0]]"},
		{"[[1,2],[0,0],[3,0]]", []int{0, 0, 0}, "[[],[],[]]"},
		{"[[1,2],[0,0],[3,0]]", []int{2, 0}, ""},
		{"[[1,2],[0,0],[3,0]]", []int{2, 0, 1, 0}, ""},
		{"[[1,2],[0,0],[3,0]]", []int{2, 0, 3}, ""},
		{"[[1,2],[0,0],[3,0]]", []int{3, 0, 1}, ""},
		{"[[1,2],[0,0],[3,0]]", []int{2, 0, -1}, ""},
		{"[[1,2],[0,0],[3,0]]", []int{-1, 0, 1}, ""},
		{"[[1,2],[],[3,4,5]]", []int{1, 0, 3}, "[[1],[],[3,4,5]]"},
		{"[[1,2],[],[3,4,5]]", []int{1, 1, 3}, ""},
		{"[[1,2],[],[3,4,5]]", []int{1, 0, 4}, ""},
		{"[[1,2],[],[3,4,5]]", []int{3, 0, 3}, ""},
		{"[[1,2]]", []int{math.MaxInt}, ""},
		{"[[1,2]]", []int{math.MinInt}, ""},
		{"[1,2]", []int{1, 2}, ""},
		{"[1,2]", []int{0, 0}, ""},
		{"7", nil, ""},
		{"", nil, ""},
		{"[[[1]]]", []int{1}, ""},
		{"[[1,]]", []int{1}, ""},
		{onesOf(400, 2), []int{198}, onesOf(400, 2)},
		{onesOf(400, 2), []int{2}, "[[11,1]]"},
		{onesOf(400, 2), []int{199}, ""},
		{onesOf(401, 2), []int{1}, ""},
	} {
		got, ok := impl.CutArray(c.s, c.lengths)
		expectText(t, fmt.Sprintf("CutArray(%.50q, %v)", c.s, c.lengths), got, ok, c.want)
	}
}

func TestCutManyRows(t *testing.T) {
	for _, count := range []int{132, 133, 134} {
		rows := slices.Repeat([][]int{{}}, count)
		for _, others := range []int{-1, 0, 1, 5000} {
			expectCut(t, rows, make([]int, count+others))
		}
		lengths := make([]int, count)
		lengths[count-1] = 1
		expectCut(t, rows, lengths)
	}
	rows := slices.Repeat([][]int{{1}}, 99)
	expectCut(t, rows, slices.Repeat([]int{1, 0, 0}, 33))
	expectCut(t, rows, slices.Repeat([]int{1}, 99))
	expectCut(t, rows, slices.Repeat([]int{1, 0, 2}, 33))
}

// smallRows returns all lists of at most so many rows, each of at most so many of some numbers.
func smallRows(most int, numbers []int) [][][]int {
	lists := listsOf(most, numbers)
	all := [][][]int{}
	for _, at := range listsOf(most, seriesTo(len(lists))) {
		rows := [][]int{}
		for _, index := range at {
			rows = append(rows, lists[index])
		}
		all = append(all, rows)
	}
	return all
}

func TestAllSmallRows(t *testing.T) {
	all := smallRows(2, []int{0, 3, 10006})
	for _, rows := range all {
		expectTransposed(t, rows)
		expectPadded(t, rows)
		for _, lengths := range listsOf(3, []int{-1, 0, 1, 2, 3}) {
			expectCut(t, rows, lengths)
		}
		for _, others := range all {
			expectMultiplied(t, rows, others)
		}
	}
	for _, rows := range smallRows(3, []int{2}) {
		expectTransposed(t, rows)
		expectPadded(t, rows)
		for _, others := range smallRows(3, []int{3}) {
			expectMultiplied(t, rows, others)
		}
	}
}

func TestTextsThatAreNoArraysHaveNoShape(t *testing.T) {
	for _, s := range []string{
		"", " ", "x", "[", "]", "[[", "]]", "[1", "1]", "[1,]", "[,1]", "[1,,2]", "[01]", "[-1]", "[10007]", "[1 ]", "(1)", "[1]x", "x[1]", "[[1],2]", "[2,[1]]", "[[1][2]]",
		"[[1],[2]", "[[1],[2]]]", "[[1],[02]]", "[[1],[10007]]", "[[1],[-2]]", "[[1], [2]]", "[[1],[2],]", "[[[[]]]]", "[[\xff]]", "[[1]]\x00", "2|1 1|1 1",
		onesOf(401, 1), onesOf(401, 2), onesOf(401, 3), onesOf(1000, 2), emptyTree(134).text(), strings.Repeat("[", 100000),
	} {
		for depth := range 4 {
			expectNoShape(t, s, depth)
		}
	}
	for _, depth := range noDepths {
		for _, s := range []string{"", "1", "[]", "[1]", "[[]]", "[[1]]", "[[[]]]", "[[[[]]]]"} {
			expectNoShape(t, s, depth)
		}
	}
	for depth, s := range []string{"1", "[1]", "[[1]]", "[[[1]]]"} {
		for other := range 4 {
			if other != depth {
				expectNoShape(t, s, other)
			}
		}
	}
}

func TestShortTextsThatAreNoArraysHaveNoShape(t *testing.T) {
	texts := []string{""}
	for at := 0; at < len(texts); at++ {
		s := texts[at]
		for depth := range 4 {
			if !impl.ArrayValid(s, depth) {
				expectNoShape(t, s, depth)
			}
		}
		if len(s) < 6 {
			for _, c := range "[],1" {
				texts = append(texts, s+string(c))
			}
		}
	}
}

// randomRows returns so many rows of the same length.
func randomRows(source *rand.Rand, count int, width int) [][]int {
	rows := make([][]int, count)
	for i := range rows {
		rows[i] = randomNumbers(source, width)
	}
	return rows
}

// mustText returns the text of a call that is to return one.
func mustText(t *testing.T) func(s string, ok bool) string {
	return func(s string, ok bool) string {
		t.Helper()
		if !ok {
			t.Error("an array is not taken")
		}
		return s
	}
}

func TestFilledShapesHaveTheirShapeAndNumbers(t *testing.T) {
	source := rand.New(rand.NewSource(30))
	for range 3000 {
		shape := []int{}
		for range source.Intn(4) {
			shape = append(shape, source.Intn(5))
		}
		numbers := randomNumbers(source, product(shape))
		expectFilled(t, shape, numbers)
		expectFilled(t, shape, append(numbers, 0))
		if len(numbers) > 0 {
			expectFilled(t, shape, numbers[1:])
		}
	}
}

func TestReshapedArraysHaveTheSameNumbers(t *testing.T) {
	source := rand.New(rand.NewSource(31))
	reshaped := 0
	for range 5000 {
		a := randomTree(source, source.Intn(4))
		expectShape(t, a)
		numbers := a.numbers()
		// Shapes of two and three levels that have as many numbers, or some more or less.
		first, second := 1+source.Intn(4), 1+source.Intn(3)
		for _, shape := range [][]int{{len(numbers)}, {first, len(numbers) / first}, {first, second, len(numbers) / first / second}, {len(numbers) / first, first}, nil} {
			expectReshaped(t, a, shape)
			s, ok := impl.ReshapeArray(a.text(), a.depth, shape)
			if ok {
				reshaped++
				got, ok := impl.NumbersOf(s, len(shape))
				expectList(t, "the numbers of "+s, got, ok, numbers)
				if kept, ok := impl.ShapeOf(a.text(), a.depth); ok && len(numbers) > 0 {
					back, ok := impl.ReshapeArray(s, len(shape), kept)
					expectText(t, "what is reshaped back", back, ok, a.text())
				}
			}
		}
	}
	if reshaped < 5000 {
		t.Errorf("only %d are reshaped", reshaped)
	}
}

func TestArraysThatAreTransposedTwice(t *testing.T) {
	source := rand.New(rand.NewSource(32))
	for range 3000 {
		rows := randomRows(source, source.Intn(5), source.Intn(5))
		expectTransposed(t, rows)
		s := rowsTree(rows).text()
		twice := mustText(t)(impl.TransposeArray(mustText(t)(impl.TransposeArray(s))))
		if len(slices.Concat(rows...)) > 0 {
			expectText(t, s+" transposed twice", twice, true, s)
		} else {
			expectText(t, s+" transposed twice", twice, true, "[]")
		}
		shape, columns := must(t)(impl.ShapeOf(s, 2)), must(t)(impl.ShapeOf(mustText(t)(impl.TransposeArray(s)), 2))
		if twice == s && (columns[0] != shape[1] || columns[1] != shape[0]) {
			t.Errorf("%q has the shape %v, and transposed %v", s, shape, columns)
		}
		if len(rows) > 0 {
			at := source.Intn(len(rows))
			rows[at] = append(rows[at], 1)
			expectTransposed(t, rows)
		}
	}
}

func TestProductsAreTransposedTheOtherWayRound(t *testing.T) {
	source := rand.New(rand.NewSource(33))
	for range 3000 {
		count, width, columns := 1+source.Intn(4), 1+source.Intn(4), 1+source.Intn(4)
		first, second := randomRows(source, count, width), randomRows(source, width, columns)
		expectMultiplied(t, first, second)
		a, b := rowsTree(first).text(), rowsTree(second).text()
		ab := mustText(t)(impl.MultiplyArrays(a, b))
		other := mustText(t)(impl.MultiplyArrays(mustText(t)(impl.TransposeArray(b)), mustText(t)(impl.TransposeArray(a))))
		expectText(t, "the product of "+b+" and "+a+" transposed", other, true, mustText(t)(impl.TransposeArray(ab)))
		c := rowsTree(randomRows(source, columns, 1+source.Intn(3))).text()
		left := mustText(t)(impl.MultiplyArrays(ab, c))
		right := mustText(t)(impl.MultiplyArrays(a, mustText(t)(impl.MultiplyArrays(b, c))))
		expectText(t, "the product of "+a+", "+b+" and "+c, left, true, right)
	}
}

func TestProductsAreMadeAsInOtherChapters(t *testing.T) {
	source := rand.New(rand.NewSource(34))
	for range 300 {
		width, columns := source.Intn(5), source.Intn(5)
		row, second := randomNumbers(source, width), randomRows(source, width, columns)
		numbers := []int{}
		for i := range columns {
			products := []int{}
			for k, n := range row {
				parts := numbersTree(n, second[k][i]).partTexts()
				products = append(products, must(t)(impl.NumbersOf(mustText(t)(impl.ApplySign("*", parts, 0)), 0))...)
			}
			numbers = append(numbers, must(t)(impl.SumSegments([]int{width}, products))...)
		}
		want := [][]int{numbers}
		if width == 0 {
			want = [][]int{{}}
		}
		got, ok := impl.MultiplyArrays(rowsTree([][]int{row}).text(), rowsTree(second).text())
		expectText(t, "a product", got, ok, rowsTree(want).text())
	}
}

func TestRowsOfManyLengths(t *testing.T) {
	source := rand.New(rand.NewSource(35))
	for range 3000 {
		a := randomTree(source, 2)
		rows := rowsOf(a)
		expectTransposed(t, rows)
		expectPadded(t, rows)
		lengths := segments(rows).lengths()
		padded := mustText(t)(impl.PadArray(a.text()))
		back, ok := impl.CutArray(padded, lengths)
		expectText(t, padded+" that is cut back", back, ok, a.text())
		if again := mustText(t)(impl.PadArray(padded)); again != padded || !impl.IsRegular(padded, 2) {
			t.Errorf("%q that is padded is not regular: %q", a.text(), padded)
		}
		for i, length := range lengths {
			lengths[i] = source.Intn(length + 1)
		}
		expectCut(t, rows, lengths)
		if len(lengths) > 0 {
			lengths[source.Intn(len(lengths))] = source.Intn(8) - 2
			expectCut(t, rows, lengths)
		}
		expectMultiplied(t, rows, rowsOf(randomTree(source, 2)))
	}
}

func TestRowsOfProductsKeepTheirOrder(t *testing.T) {
	rows, one := [][]int{}, [][]int{{1}}
	for i := range 80 {
		rows = append(rows, []int{i})
	}
	for range 300 {
		got, ok := impl.MultiplyArrays(rowsTree(rows).text(), "[[1]]")
		expectText(t, "rows times 1", got, ok, rowsTree(rows).text())
	}
	t.Run("at once", func(t *testing.T) {
		for range 8 {
			t.Run("products", func(t *testing.T) {
				t.Parallel()
				for range 50 {
					expectMultiplied(t, rows, one)
				}
			})
		}
	})
}

func TestShapesAreNewMemory(t *testing.T) {
	shape, numbers := roomy([]int{2, 3}, -7), roomy([]int{1, 2, 3, 4, 5, 6}, -7)
	lengths, none := roomy([]int{1, 2}, -7), roomy([]int{}, -7)
	given := [][]int{shape[:cap(shape)], numbers[:cap(numbers)], lengths[:cap(lengths)], none[:cap(none)]}
	before := fmt.Sprint(given)
	var results [][]int
	for range 2 {
		if s, ok := impl.FillShape(shape, numbers); s != "[[1,2,3],[4,5,6]]" || !ok {
			t.Errorf("FillShape = %q, %v", s, ok)
		}
		if s, ok := impl.FillShape(none, numbers[:1]); s != "1" || !ok {
			t.Errorf("FillShape = %q, %v", s, ok)
		}
		if s, ok := impl.ReshapeArray("[1,2,3,4,5,6]", 1, shape); s != "[[1,2,3],[4,5,6]]" || !ok {
			t.Errorf("ReshapeArray = %q, %v", s, ok)
		}
		if s, ok := impl.CutArray("[[1,2,3],[4,5,6]]", lengths); s != "[[1],[4,5]]" || !ok {
			t.Errorf("CutArray = %q, %v", s, ok)
		}
		impl.FillShape(numbers, shape)
		impl.CutArray("[]", none)
		for depth, s := range []string{"1", "[1,2]", "[[1,2],[3,4]]", "[[[]],[[]]]"} {
			results = append(results, must(t)(impl.ShapeOf(s, depth)))
		}
	}
	for i, list := range results {
		results[i] = list[:cap(list)]
	}
	if !markAll(results) {
		t.Error("shapes share memory")
	}
	if fmt.Sprint(given) != before {
		t.Errorf("the arguments %v are changed to %v", before, given)
	}
}
