package tests

import (
	"fmt"
	"maps"
	"math"
	"math/rand"
	"slices"
	"strconv"
	"strings"
	"testing"

	"loop.example/flatarrays/impl"
)

// vectorOf returns the vector of arrays of a depth.
func vectorOf(depth int, arrays ...tree) impl.Vector {
	return impl.Vector{Count: len(arrays), Layout: layoutOfRow(arrays, depth)}
}

func formattedVector(v impl.Vector) string {
	return strconv.Itoa(v.Count) + "*" + formatted(v.Layout)
}

func sameVectors(a, b impl.Vector) bool {
	return a.Count == b.Count && sameLayouts(a.Layout, b.Layout)
}

func textsOf(arrays []tree) []string {
	return tree{1, 0, arrays}.partTexts()
}

// expectGivenVector checks a vector and whether it was returned with true; without it, it is to be the zero value.
func expectGivenVector(t *testing.T, name string, got impl.Vector, ok bool, want impl.Vector, valid bool) {
	t.Helper()
	if !valid {
		want = impl.Vector{}
	}
	if ok != valid || !sameVectors(got, want) {
		t.Errorf("%.99s = %.99q, %v, not %.99q, %v", name, formattedVector(got), ok, formattedVector(want), valid)
	}
}

// expectUnpacked checks the texts of the arrays of a vector, or that there are none.
func expectUnpacked(t *testing.T, v impl.Vector, want []string, valid bool) {
	t.Helper()
	if got, ok := impl.UnpackVector(v); ok != valid || !slices.Equal(got, want) {
		t.Errorf("UnpackVector(%.99q) = %.99q, %v, not %.99q, %v", formattedVector(v), got, ok, want, valid)
	}
}

func expectPickedArrays(t *testing.T, depth int, arrays []tree, at []int) {
	t.Helper()
	picked, valid := []tree{}, len(at) <= 2000
	for _, index := range at {
		if index < 0 || index >= len(arrays) {
			valid = false
			break
		}
		picked = append(picked, arrays[index])
	}
	got, ok := impl.PickVector(vectorOf(depth, arrays...), at)
	expectGivenVector(t, fmt.Sprint("PickVector ", at), got, ok, vectorOf(depth, picked...), valid)
}

// expectVector checks all functions with the vector of arrays of a depth, whose texts may be too long.
func expectVector(t *testing.T, depth int, arrays ...tree) {
	t.Helper()
	want, texts := vectorOf(depth, arrays...), textsOf(arrays)
	if !impl.VectorValid(want) {
		t.Errorf("%.99q is not valid", formattedVector(want))
	}
	if got := impl.FormatVector(want); got != formattedVector(want) {
		t.Errorf("FormatVector of %.99q = %.99q", formattedVector(want), got)
	}
	fits := !slices.ContainsFunc(texts, func(text string) bool { return len(text) > 400 })
	got, ok := impl.PackVector(texts, depth)
	expectGivenVector(t, "PackVector", got, ok, want, fits)
	if fits {
		expectUnpacked(t, want, texts, true)
	} else {
		expectUnpacked(t, want, nil, false)
	}
	all := make([]int, len(arrays))
	for i := range all {
		all[i] = i
	}
	for _, at := range [][]int{nil, all, {0}, {len(arrays) - 1}, {len(arrays)}, {-1}, {0, 0}, {0, -1}, {len(arrays) - 1, 0, len(arrays) - 1}, append(slices.Clone(all), len(arrays))} {
		expectPickedArrays(t, depth, arrays, at)
	}
}

// expectNoVector checks that no function takes a vector as valid.
func expectNoVector(t *testing.T, v impl.Vector) {
	t.Helper()
	if impl.VectorValid(v) {
		t.Errorf("%.99q is valid", formattedVector(v))
	}
	if got := impl.FormatVector(v); got != formattedVector(v) {
		t.Errorf("FormatVector of %.99q = %.99q", formattedVector(v), got)
	}
	expectUnpacked(t, v, nil, false)
	for _, at := range [][]int{nil, {0}, {0, 0}} {
		got, ok := impl.PickVector(v, at)
		expectGivenVector(t, fmt.Sprint("PickVector of no vector ", at), got, ok, v, false)
	}
	numbers := vectorOf(0, slices.Repeat([]tree{numberTree(1)}, min(max(v.Count, 0), 3000))...)
	for _, sign := range strings.Split(signsBefore+signsBetween, "") {
		for _, parts := range [][]impl.Vector{{v}, {v, v}, {v, numbers}, {numbers, v}, {v, vectorOf(0)}} {
			got, ok := impl.DoInstruction(sign, parts)
			expectGivenVector(t, "DoInstruction of no vector "+sign, got, ok, v, false)
		}
	}
}

func TestPackVector(t *testing.T) {
	for _, c := range []struct {
		depth int
		parts []string
		want  string
	}{
		{0, []string{"7"}, "1*7"},
		{0, []string{"0", "10006", "0"}, "3*0 10006 0"},
		{1, []string{"[]"}, "1*0|-"},
		{1, []string{"[1,2]", "[]", "[3]"}, "3*2 0 1|1 2 3"},
		{1, []string{"[]", "[]"}, "2*0 0|-"},
		{2, []string{"[]"}, "1*0|-|-"},
		{2, []string{"[]", "[[]]"}, "2*0 1|0|-"},
		{2, []string{"[[1,2],[]]", "[]", "[[3]]"}, "3*2 0 1|2 0 1|1 2 3"},
		{3, []string{"[[[1]],[]]", "[]", "[[],[[],[2,3]]]"}, "3*2 0 2|1 0 0 2|1 0 2|1 2 3"},
		{3, []string{"[]"}, "1*0|-|-|-"},
	} {
		v, ok := impl.PackVector(c.parts, c.depth)
		if got := impl.FormatVector(v); got != c.want || !ok || !impl.VectorValid(v) {
			t.Errorf("PackVector(%q, %d) = %q, %v, not %q", c.parts, c.depth, got, ok, c.want)
		}
		expectUnpacked(t, v, c.parts, true)
	}
}

func TestPackVectorOfNoArrays(t *testing.T) {
	expectNothing := func(parts []string, depth int) {
		t.Helper()
		got, ok := impl.PackVector(parts, depth)
		expectGivenVector(t, fmt.Sprintf("PackVector(%.50q, %d)", parts, depth), got, ok, impl.Vector{}, false)
	}
	for _, depth := range noDepths {
		for _, parts := range [][]string{nil, {}, {"1"}, {"[]"}, {"[[[]]]"}, {"[[[[]]]]"}, {""}} {
			expectNothing(parts, depth)
		}
	}
	right := []string{"1", "[1]", "[[1]]", "[[[1]]]"}
	for depth, one := range right {
		for other, text := range right {
			if other != depth {
				expectNothing([]string{text}, depth)
				expectNothing([]string{text, one}, depth)
				expectNothing([]string{one, one, text}, depth)
				expectNothing([]string{one, text, one}, depth)
			}
		}
		for _, text := range []string{"", " ", "x", "[", "]", "[1", "1 ", "[1] ", "01", "10007", "[10007]", "-1", "[[[[1]]]]", "[1,]", ones(401), onesOf(401, 2), onesOf(401, 3), "\x00", strings.Repeat("[", 100000)} {
			expectNothing([]string{text}, depth)
			expectNothing([]string{one, text}, depth)
			expectNothing([]string{text, one}, depth)
		}
	}
	expectNothing([]string{"[]"}, 0)
	expectNothing([]string{"1", "[]"}, 0)
}

func TestVectorsWithoutArrays(t *testing.T) {
	for depth, text := range []string{"0*-", "0*-|-", "0*-|-|-", "0*-|-|-|-"} {
		expectVector(t, depth)
		for _, v := range []impl.Vector{vectorOf(depth), {Layout: impl.Layout{Lengths: make([][]int, depth)}}} {
			if got := impl.FormatVector(v); got != text || !impl.VectorValid(v) {
				t.Errorf("%q has the text %q", text, got)
			}
			expectUnpacked(t, v, nil, true)
			picked, ok := impl.PickVector(v, nil)
			expectGivenVector(t, "PickVector of nothing", picked, ok, vectorOf(depth), true)
		}
		for _, at := range [][]int{{0}, {1}, {-1}, {0, 0}, {math.MinInt}, {math.MaxInt}} {
			expectPickedArrays(t, depth, nil, at)
		}
		for level := range depth {
			v := vectorOf(depth)
			v.Lengths[level] = []int{0}
			expectNoVector(t, v)
		}
		v := vectorOf(depth)
		v.Data = []int{0}
		expectNoVector(t, v)
	}
	expectNoVector(t, impl.Vector{Layout: impl.Layout{Lengths: make([][]int, 4)}})
}

func TestLimitOfArraysOfAVector(t *testing.T) {
	for depth, array := range []tree{numberTree(5), numbersTree(6), listsTree(numbersTree(1, 2), numbersTree()), {3, 0, []tree{listsTree(numbersTree(4))}}} {
		for _, count := range []int{1999, 2000, 2001, 2002, 4000} {
			arrays := slices.Repeat([]tree{array}, count)
			got, ok := impl.PackVector(textsOf(arrays), depth)
			expectGivenVector(t, fmt.Sprint("PackVector of ", count), got, ok, vectorOf(depth, arrays...), count <= 2000)
			if count <= 2000 {
				expectVector(t, depth, arrays...)
				expectVector(t, depth, repeated(tree{depth: depth}, count).parts...)
			} else {
				expectNoVector(t, vectorOf(depth, arrays...))
				expectNoVector(t, vectorOf(depth, repeated(tree{depth: depth}, count).parts...))
			}
			for _, few := range [][]tree{{array}, {tree{depth: depth}, array}} {
				expectPickedArrays(t, depth, few, slices.Repeat([]int{0}, count))
				expectPickedArrays(t, depth, few, slices.Repeat([]int{len(few) - 1}, count))
			}
		}
	}
}

func TestLevelsThatDoNotAddUp(t *testing.T) {
	arrays := [][]tree{
		{numberTree(3), numberTree(4), numberTree(5)},
		{numbersTree(1, 2), numbersTree(), numbersTree(3)},
		{listsTree(numbersTree(1, 2), numbersTree()), listsTree(), listsTree(numbersTree(3))},
		{{3, 0, []tree{listsTree(numbersTree(7), numbersTree(1, 2)), listsTree()}}, {depth: 3}, {3, 0, []tree{listsTree(numbersTree(3))}}},
	}
	for depth, list := range arrays {
		expectVector(t, depth, list...)
		for _, more := range []int{-4, -3, -2, -1, 1, 2, 3, 1997, 1998, math.MinInt, math.MaxInt - 3} {
			v := vectorOf(depth, list...)
			v.Count += more
			expectNoVector(t, v)
		}
		for level := range depth + 1 {
			change := func(do func(list []int) []int) impl.Vector {
				v := vectorOf(depth, list...)
				if level == depth {
					v.Data = do(v.Data)
				} else {
					v.Lengths[level] = do(v.Lengths[level])
				}
				return v
			}
			expectNoVector(t, change(func(list []int) []int { return append(list, 0) }))
			expectNoVector(t, change(func(list []int) []int { return append(list, 1) }))
			expectNoVector(t, change(func(list []int) []int { return list[:len(list)-1] }))
			expectNoVector(t, change(func(list []int) []int { return list[1:] }))
			expectNoVector(t, change(func(list []int) []int { return nil }))
			for _, n := range []int{-1, math.MinInt, 10007, 401, math.MaxInt} {
				if level < depth || n != 401 {
					expectNoVector(t, change(func(list []int) []int { return append([]int{n}, list[1:]...) }))
					expectNoVector(t, change(func(list []int) []int { return append(list[:len(list)-1], n) }))
				}
			}
		}
	}
}

func TestLimitsOfNumbersOfAVector(t *testing.T) {
	for depth := range 4 {
		for _, n := range []int{0, 1, 401, 10005, 10006} {
			array := numberTree(n)
			for range depth {
				array = repeated(array, 1)
			}
			expectVector(t, depth, array)
			expectVector(t, depth, array, array)
		}
		for _, n := range []int{-1, -10007, 10007, 10008, math.MinInt, math.MaxInt} {
			for _, data := range [][]int{{n, 1, 1}, {1, n, 1}, {1, 1, n}} {
				lengths := slices.Repeat([][]int{{1, 1, 1}}, depth)
				expectNoVector(t, impl.Vector{Count: 3, Layout: impl.Layout{Lengths: lengths, Data: data}})
			}
		}
	}
}

func TestLimitsOfLengthsOfAVector(t *testing.T) {
	for depth := 1; depth <= 3; depth++ {
		for level := range depth {
			for _, length := range []int{0, 399, 400, 401, 402} {
				part := numberTree(9)
				for range depth - level - 1 {
					part = repeated(part, 1)
				}
				long := tree{depth: depth - level, parts: slices.Repeat([]tree{part}, length)}
				for range level {
					long = repeated(long, 1)
				}
				if length <= 400 {
					expectVector(t, depth, long)
					expectVector(t, depth, tree{depth: depth}, long, tree{depth: depth})
				} else {
					expectNoVector(t, vectorOf(depth, long))
					expectNoVector(t, vectorOf(depth, tree{depth: depth}, long))
				}
			}
			for _, length := range []int{-1, math.MinInt} {
				v := vectorOf(depth, tree{depth: depth}, tree{depth: depth})
				v.Lengths[level] = []int{length, -length}
				expectNoVector(t, v)
			}
		}
	}
}

func TestVectorsOfTooManyLevels(t *testing.T) {
	for levels := 4; levels < 8; levels++ {
		lengths := slices.Repeat([][]int{{1}}, levels)
		expectNoVector(t, impl.Vector{Count: 1, Layout: impl.Layout{Lengths: lengths, Data: []int{1}}})
		expectNoVector(t, impl.Vector{Layout: impl.Layout{Lengths: make([][]int, levels)}})
		lengths = slices.Repeat([][]int{{}}, levels)
		lengths[0] = []int{0, 0}
		expectNoVector(t, impl.Vector{Count: 2, Layout: impl.Layout{Lengths: lengths}})
	}
}

func TestCountsThatAreNone(t *testing.T) {
	for _, count := range []int{-1, -2, -2000, math.MinInt, 1, 2, 2000, 2001, math.MaxInt} {
		for depth := range 4 {
			v := vectorOf(depth)
			v.Count = count
			expectNoVector(t, v)
		}
	}
	for _, count := range []int{-1, 0, 2, 3} {
		for depth := range 4 {
			v := vectorOf(depth, tree{depth: depth})
			v.Count = count
			expectNoVector(t, v)
		}
	}
}

// isVector reports whether a vector is valid: its levels are right behind its count, as those of a layout are.
func isVector(v impl.Vector) bool {
	l := impl.Layout{Lengths: append([][]int{{v.Count}}, v.Lengths...), Data: v.Data}
	for level := 1; level <= len(l.Lengths); level++ {
		if !rightAt(l, level) {
			return false
		}
	}
	return v.Count >= 0 && v.Count <= 2000 && len(v.Lengths) <= 3
}

func TestAllSmallVectors(t *testing.T) {
	lists := listsOf(3, []int{-1, 0, 1, 2})
	valid := 0
	var check func(v impl.Vector)
	check = func(v impl.Vector) {
		for v.Count = -1; v.Count < 4; v.Count++ {
			for _, v.Data = range lists {
				is := isVector(v)
				if got := impl.VectorValid(v); got != is {
					t.Errorf("VectorValid(%q) = %v", formattedVector(v), got)
				}
				if !is {
					expectUnpacked(t, v, nil, false)
					continue
				}
				valid++
				texts, ok := impl.UnpackVector(v)
				back, fine := impl.PackVector(texts, len(v.Lengths))
				expectGivenVector(t, fmt.Sprintf("PackVector(%q)", texts), back, ok && fine, v, true)
			}
		}
		if len(v.Lengths) < 2 {
			for _, list := range lists {
				check(impl.Vector{Layout: impl.Layout{Lengths: append(slices.Clone(v.Lengths), list)}})
			}
		}
	}
	check(impl.Vector{})
	if valid < 500 {
		t.Errorf("only %d vectors are valid", valid)
	}
}

func TestFormatVector(t *testing.T) {
	for text, v := range map[string]impl.Vector{
		"0*-":                   {},
		"-7*-":                  {Count: -7},
		"2001*-":                {Count: 2001},
		"1*-|-|-|-|5":           {Count: 1, Layout: impl.Layout{Lengths: make([][]int, 4), Data: []int{5}}},
		"2*3 -4|-|-1 20000":     {Count: 2, Layout: impl.Layout{Lengths: [][]int{{3, -4}, {}}, Data: []int{-1, 20000}}},
		"3*2 0 1|2 0 1|1 2 3":   {Count: 3, Layout: impl.Layout{Lengths: [][]int{{2, 0, 1}, {2, 0, 1}}, Data: []int{1, 2, 3}}},
		"9223372036854775807*0": {Count: math.MaxInt, Layout: impl.Layout{Data: []int{0}}},
	} {
		if got := impl.FormatVector(v); got != text {
			t.Errorf("FormatVector = %q, not %q", got, text)
		}
	}
}

func TestArraysOfAVectorThatAreTooLong(t *testing.T) {
	for depth := 1; depth <= 3; depth++ {
		for size := 398; size <= 402; size++ {
			one, none := onesTree(size, depth), tree{depth: depth}
			for _, arrays := range [][]tree{{one}, {one, none}, {none, one}, {none, one, none}, {one, one}} {
				expectVector(t, depth, arrays...)
			}
		}
	}
	expectVector(t, 3, tree{3, 0, slices.Repeat([]tree{emptyTree(400)}, 400)})
	expectVector(t, 2, repeated(onesTree(801, 1), 400), listsTree())
	expectVector(t, 1, slices.Repeat([]tree{onesTree(801, 1)}, 2000)...)
}

func TestPickVector(t *testing.T) {
	arrays := []string{"[[1,2],[]]", "[]", "[[3]]"}
	v, _ := impl.PackVector(arrays, 2)
	for _, c := range []struct {
		at   []int
		want string
	}{
		{nil, "0*-|-|-"},
		{[]int{0}, "1*2|2 0|1 2"},
		{[]int{1}, "1*0|-|-"},
		{[]int{2, 0, 2}, "3*1 2 1|1 2 0 1|3 1 2 3"},
		{[]int{1, 1, 1, 1}, "4*0 0 0 0|-|-"},
		{[]int{2, 2, 2, 2}, "4*1 1 1 1|1 1 1 1|3 3 3 3"},
		{[]int{0, 1, 2}, "3*2 0 1|2 0 1|1 2 3"},
		{[]int{2, 1, 0}, "3*1 0 2|1 2 0|3 1 2"},
	} {
		if got, ok := impl.PickVector(v, c.at); impl.FormatVector(got) != c.want || !ok {
			t.Errorf("PickVector(%v) = %q, %v, not %q", c.at, impl.FormatVector(got), ok, c.want)
		}
	}
	for _, index := range []int{-1, -2, -3, 3, 4, 2000, math.MinInt, math.MaxInt} {
		for _, at := range [][]int{{index}, {0, index}, {index, 0}, {0, 1, 2, index}, {index, index}} {
			got, ok := impl.PickVector(v, at)
			expectGivenVector(t, fmt.Sprint("PickVector ", at), got, ok, v, false)
		}
	}
}

func TestVectorsOfAnyArrays(t *testing.T) {
	source := rand.New(rand.NewSource(81))
	for round := range 3000 {
		depth := round % 4
		var arrays []tree
		for range source.Intn(6) {
			arrays = append(arrays, randomTree(source, depth))
		}
		expectVector(t, depth, arrays...)
		at := make([]int, source.Intn(8))
		for i := range at {
			at[i] = source.Intn(len(arrays)+2) - source.Intn(2)
		}
		expectPickedArrays(t, depth, arrays, at)
	}
}

// expectDone checks DoInstruction of arrays of a depth each, all of them right.
func expectDone(t *testing.T, sign string, depths []int, lists [][]tree) {
	t.Helper()
	var parts []impl.Vector
	for i, list := range lists {
		parts = append(parts, vectorOf(depths[i], list...))
	}
	got, ok := impl.DoInstruction(sign, parts)
	name := fmt.Sprintf("DoInstruction(%q) of the depths %v", sign, depths)
	if len(lists) == 0 || !takes(sign, len(lists), depths[0]) || len(lists) == 2 && (depths[1] != 0 || len(lists[0]) != len(lists[1])) {
		expectGivenVector(t, name, got, ok, impl.Vector{}, false)
		return
	}
	var given []tree
	for i, array := range lists[0] {
		n := 0
		if len(lists) == 2 {
			n = lists[1][i].value
		}
		given = append(given, applied(sign, array, n))
	}
	depth := 0
	if len(lists) == 1 {
		depth = depthsOfSigns[sign][depths[0]]
	}
	expectGivenVector(t, name, got, ok, vectorOf(depth, given...), true)
}

func TestInstructionsOnVectors(t *testing.T) {
	for _, c := range []struct {
		sign  string
		depth int
		parts []string
		want  string
	}{
		{"S", 1, []string{"[1,2]", "[]", "[3]", "[10006,2]"}, "4*3 0 3 1"},
		{"M", 1, []string{"[5,6]", "[]", "[6,5]", "[0]"}, "4*6 0 6 0"},
		{"I", 0, []string{"2", "0", "1"}, "3*2 0 1|0 1 0"},
		{"I", 0, []string{"12"}, "1*12|0 1 2 3 4 5 6 7 8 9 10 11"},
		{"I", 0, []string{"13", "10006"}, "2*12 12|0 1 2 3 4 5 6 7 8 9 10 11 0 1 2 3 4 5 6 7 8 9 10 11"},
		{"N", 1, []string{"[7,7,7]", "[]"}, "2*3 0"},
		{"N", 2, []string{"[[1,2],[]]", "[]", "[[3]]"}, "3*2 0 1"},
		{"N", 3, []string{"[[[1,2]],[],[]]", "[]"}, "2*3 0"},
		{"R", 1, []string{"[1,2,3]", "[]", "[4,5]"}, "3*3 0 2|3 2 1 5 4"},
		{"R", 2, []string{"[[1,2],[]]", "[]", "[[3]]"}, "3*2 0 1|0 2 1|1 2 3"},
		{"R", 3, []string{"[[],[[1,2],[3]]]", "[[[]],[]]"}, "2*2 2|2 0 0 1|2 1 0|1 2 3"},
		{"C", 2, []string{"[[1,2],[]]", "[]", "[[3]]"}, "3*2 0 1|1 2 3"},
		{"C", 3, []string{"[[[1,2],[]],[[3]]]", "[[]]", "[]"}, "3*3 0 0|2 0 1|1 2 3"},
		{"P", 1, []string{"[5,6]", "[7]", "[]", "[10006,3,4]"}, "4*2 1 0 3|0 5 0 0 10006 2"},
	} {
		v, _ := impl.PackVector(c.parts, c.depth)
		got, ok := impl.DoInstruction(c.sign, []impl.Vector{v})
		if text := impl.FormatVector(got); text != c.want || !ok || !impl.VectorValid(got) {
			t.Errorf("DoInstruction(%q, %q) = %q, %v, not %q", c.sign, c.parts, text, ok, c.want)
		}
	}
}

func TestInstructionsOnPairsOfVectors(t *testing.T) {
	numbers, _ := impl.PackVector([]string{"4", "5", "10006", "0"}, 0)
	others, _ := impl.PackVector([]string{"5", "4", "2", "0"}, 0)
	for sign, want := range map[string]string{
		"+": "4*9 9 1 0", "*": "4*20 20 10005 0", "^": "4*5 5 10006 0", "-": "4*0 1 10004 0", "=": "4*0 0 0 1", "<": "4*1 0 0 0",
	} {
		if got, ok := impl.DoInstruction(sign, []impl.Vector{numbers, others}); impl.FormatVector(got) != want || !ok {
			t.Errorf("DoInstruction(%q) = %q, %v, not %q", sign, impl.FormatVector(got), ok, want)
		}
	}
	lists, _ := impl.PackVector([]string{"[7,8]", "[7,8]", "[7,8]", "[]"}, 1)
	at, _ := impl.PackVector([]string{"1", "0", "2", "0"}, 0)
	if got, ok := impl.DoInstruction("@", []impl.Vector{lists, at}); impl.FormatVector(got) != "4*8 7 0 0" || !ok {
		t.Errorf("DoInstruction of @ = %q, %v", impl.FormatVector(got), ok)
	}
}

func TestInstructionsOnVectorsOfEachDepth(t *testing.T) {
	signs := []string{"", "SS", "S ", " S", "+-", "++", "[x", "{x", "[]", "SMINRCP", "Sum", "S\x00", "é"}
	for c := range 256 {
		signs = append(signs, string([]byte{byte(c)}))
	}
	arrays := arraysOfDepths()
	for depth, list := range arrays {
		arrays[depth] = slices.DeleteFunc(list, func(a tree) bool { return a.textSize() > 200 })
	}
	for _, sign := range signs {
		expectDone(t, sign, nil, nil)
		for depth, list := range arrays {
			for _, count := range []int{0, 1, 2, 4} {
				expectDone(t, sign, []int{depth}, [][]tree{list[:count]})
				for second, others := range arrays {
					for _, more := range []int{0, 1, 2, 3, 4} {
						expectDone(t, sign, []int{depth, second}, [][]tree{list[:count], others[:more]})
					}
				}
				v := vectorOf(depth, list[:count]...)
				for _, parts := range [][]impl.Vector{{v, v, v}, {v, vectorOf(0, arrays[0][:count]...), v}, {v, v, v, v}} {
					got, ok := impl.DoInstruction(sign, parts)
					expectGivenVector(t, "DoInstruction of too many parts, "+sign, got, ok, v, false)
				}
			}
		}
	}
}

func TestInstructionsOnVectorsWithoutArrays(t *testing.T) {
	for depth := range 4 {
		for _, sign := range strings.Split(signsBefore, "") {
			expectDone(t, sign, []int{depth}, [][]tree{nil})
		}
		for _, sign := range strings.Split(signsBetween, "") {
			for second := range 4 {
				expectDone(t, sign, []int{depth, second}, [][]tree{nil, nil})
			}
		}
	}
	for sign, want := range map[string]string{"S1": "0*-", "M1": "0*-", "I0": "0*-|-", "N1": "0*-", "N2": "0*-", "N3": "0*-", "R1": "0*-|-", "R2": "0*-|-|-", "R3": "0*-|-|-|-", "C2": "0*-|-", "C3": "0*-|-|-", "P1": "0*-|-"} {
		depth, _ := strconv.Atoi(sign[1:])
		if got, ok := impl.DoInstruction(sign[:1], []impl.Vector{vectorOf(depth)}); impl.FormatVector(got) != want || !ok {
			t.Errorf("DoInstruction(%q) of no arrays of the depth %d = %q, %v", sign[:1], depth, impl.FormatVector(got), ok)
		}
	}
}

func TestInstructionsOnManyArrays(t *testing.T) {
	source := rand.New(rand.NewSource(82))
	for _, count := range []int{1999, 2000} {
		for depth := range 4 {
			var list, numbers []tree
			for range count {
				list = append(list, randomTree(source, depth))
				numbers = append(numbers, numberTree(source.Intn(7)))
			}
			for _, sign := range strings.Split(signsBefore, "") {
				expectDone(t, sign, []int{depth}, [][]tree{list})
			}
			for _, sign := range strings.Split(signsBetween, "") {
				expectDone(t, sign, []int{depth, 0}, [][]tree{list, numbers})
				expectDone(t, sign, []int{depth, 0}, [][]tree{list, numbers[1:]})
				expectDone(t, sign, []int{depth, 0}, [][]tree{list[1:], numbers})
			}
		}
	}
}

// An array that C gives may have more parts than those of a valid vector have.
func TestArraysThatAreTooLongBehindAnInstruction(t *testing.T) {
	for _, c := range []struct {
		array tree
		valid bool
	}{
		{repeated(zeros(200), 2), true},
		{listsTree(zeros(400), zeros(0)), true},
		{listsTree(zeros(400), zeros(1)), false},
		{listsTree(zeros(1), zeros(400)), false},
		{repeated(zeros(1), 400), true},
		{repeated(zeros(400), 400), false},
		{tree{3, 0, []tree{emptyTree(400)}}, true},
		{tree{3, 0, []tree{emptyTree(400), emptyTree(1)}}, false},
		{repeated(emptyTree(400), 400), false},
	} {
		for _, list := range [][]tree{{c.array}, {c.array, {depth: c.array.depth}}, {c.array, c.array}} {
			expectDone(t, "C", []int{c.array.depth}, [][]tree{list})
			got, _ := impl.DoInstruction("C", []impl.Vector{vectorOf(c.array.depth, list...)})
			if impl.VectorValid(got) != c.valid {
				t.Errorf("VectorValid(%.50q) is not %v", formattedVector(got), c.valid)
			}
		}
	}
	long := slices.Repeat([]tree{onesTree(801, 1)}, 3)
	for _, sign := range []string{"S", "M", "N", "R", "P"} {
		expectDone(t, sign, []int{1}, [][]tree{long})
		expectDone(t, sign, []int{2}, [][]tree{{{2, 0, long}}})
	}
	expectDone(t, "@", []int{1, 0}, [][]tree{long, {numberTree(399), numberTree(400), numberTree(0)}})
}

func TestInstructionsOnEachArrayByItself(t *testing.T) {
	source := rand.New(rand.NewSource(83))
	for round := range 2000 {
		depth := round % 4
		var list, numbers []tree
		for range source.Intn(6) {
			list, numbers = append(list, randomTree(source, depth)), append(numbers, numberTree(source.Intn(5)))
		}
		for _, sign := range strings.Split(signsBefore+signsBetween, "") {
			expectDone(t, sign, []int{depth}, [][]tree{list})
			expectDone(t, sign, []int{depth, 0}, [][]tree{list, numbers})
			if depth == 0 {
				expectDone(t, sign, []int{0, 0}, [][]tree{numbers, list})
			}
		}
	}
}

// expectFlat checks that the code of a term gives what the term is to give, by as much work.
func expectFlat(t *testing.T, s, a, b string, want ran) {
	t.Helper()
	code, _ := impl.CodeOf(s)
	if text, why := impl.RunCode(code, a, b); text != want.text || why != want.why {
		t.Errorf("RunCode(%q, %.99q, %.99q) = %q, %q, not %q, %q", code, a, b, text, why, want.text, want.why)
	}
	widths, ok := impl.WidthsOf(code, a, b)
	if want.work < 0 {
		expectNoList(t, "WidthsOf "+code, widths, ok)
		return
	}
	instructions := impl.InstructionsOf(code)
	if len(widths) != len(instructions) || !ok {
		t.Errorf("WidthsOf(%q, %.99q, %.99q) = %v, %v", code, a, b, widths, ok)
		return
	}
	if work := sum(worksOf(instructions, widths)); work != want.work || widths[len(widths)-1] != 1 {
		t.Errorf("%q has the work %d, not %d, by the widths %v", code, work, want.work, widths)
	}
}

// worksOf returns the work of each instruction: the width behind the one ahead of it, but none for the end of a loop.
func worksOf(instructions []string, widths []int) []int {
	works := append([]int{1}, widths...)[:len(widths)]
	for at, in := range instructions {
		if in == "]" || in == "}" {
			works[at] = 0
		}
	}
	return works
}

// widths returns the width behind each instruction of a term that is evaluated once for each of some tables of variables.
func (p picture) widths(tables []map[string]tree) []int {
	var list []int
	for i, part := range p.parts {
		inner := tables
		if i == 1 && p.bound != "" {
			inner = p.innerTables(tables)
			list = append(list, len(inner))
		}
		list = append(list, part.widths(inner)...)
	}
	return append(list, len(tables))
}

// innerTables returns the tables with which the second part of a loop is evaluated.
func (p picture) innerTables(tables []map[string]tree) []map[string]tree {
	var inner []map[string]tree
	for _, vars := range tables {
		over, _ := p.parts[0].given(new(counter), vars)
		for _, part := range over.parts {
			table := maps.Clone(vars)
			table[p.bound] = part
			inner = append(inner, table)
		}
	}
	return inner
}

// expectWidths checks the widths of the code of a term, if it is not wrong and not too much work.
func expectWidths(t *testing.T, p picture, a, b tree) {
	t.Helper()
	want, ok := p.run(a, b)
	if !ok {
		return
	}
	widths, valid := impl.WidthsOf(p.code(), a.text(), b.text())
	if want.work < 0 {
		expectNoList(t, "WidthsOf "+p.code(), widths, valid)
		return
	}
	expectList(t, "WidthsOf "+p.code(), widths, valid, p.widths([]map[string]tree{{"a": a, "b": b}}))
}

// A codeRun is code, what it gives and the width behind each instruction.
type codeRun struct {
	code, want string
	widths     []int
}

func expectCodeRuns(t *testing.T, a, b string, list []codeRun) {
	t.Helper()
	for _, c := range list {
		if got, why := impl.RunCode(c.code, a, b); got != c.want || why != "" {
			t.Errorf("RunCode(%q, %q, %q) = %q, %q, not %q", c.code, a, b, got, why, c.want)
		}
		widths, ok := impl.WidthsOf(c.code, a, b)
		expectList(t, "WidthsOf "+c.code, widths, ok, c.widths)
		s, _ := impl.TermOf(c.code)
		if got, why := impl.RunTerm(s, a, b); got != c.want || why != "" {
			t.Errorf("RunTerm(%q, %q, %q) = %q, %q, not %q", s, a, b, got, why, c.want)
		}
	}
}

func TestCodeRuns(t *testing.T) {
	expectCodeRuns(t, "[1,2]", "[[1,2],[],[3]]", []codeRun{
		{"7", "7", []int{1}},
		{"a", "[1,2]", []int{1}},
		{"b", "[[1,2],[],[3]]", []int{1}},
		{"a S", "3", []int{1, 1}},
		{"a R", "[2,1]", []int{1, 1}},
		{"b C", "[1,2,3]", []int{1, 1}},
		{"1 2 -", "0", []int{1, 1, 1}},
		{"2 1 -", "1", []int{1, 1, 1}},
		{"a 1 @", "2", []int{1, 1, 1}},
		{"b [x x S ]", "[3,0,3]", []int{1, 3, 3, 3, 1}},
		{"b {x x S }", "[[1,2],[3]]", []int{1, 3, 3, 3, 1}},
		{"b [x x [y y y * ] ]", "[[1,4],[],[9]]", []int{1, 3, 3, 3, 3, 3, 3, 3, 1}},
		{"b [x x {y y 2 - } ]", "[[],[],[3]]", []int{1, 3, 3, 3, 3, 3, 3, 3, 1}},
		{"a [x a [y x y * ] ]", "[[1,2],[2,4]]", []int{1, 2, 2, 4, 4, 4, 4, 2, 1}},
		{"a [x b {y y N x 1 - - } ]", "[[[1,2],[3]],[[1,2]]]", []int{1, 2, 2, 6, 6, 6, 6, 6, 6, 6, 2, 1}},
		{"b [x a ]", "[[1,2],[1,2],[1,2]]", []int{1, 3, 3, 1}},
		{"b [x 4 ]", "[4,4,4]", []int{1, 3, 3, 1}},
		{"b {x 0 }", "[]", []int{1, 3, 3, 1}},
		{"a {x x 1 - }", "[2]", []int{1, 2, 2, 2, 2, 1}},
	})
}

func TestCodeRunsOverNothing(t *testing.T) {
	expectCodeRuns(t, "[]", "[]", []codeRun{
		{"a [x x ]", "[]", []int{1, 0, 0, 1}},
		{"a {x x }", "[]", []int{1, 0, 0, 1}},
		{"b [x x [y y 1 + ] ]", "[]", []int{1, 0, 0, 0, 0, 0, 0, 0, 1}},
		{"b [x x {y y 1 + } S ]", "[]", []int{1, 0, 0, 0, 0, 0, 0, 0, 0, 1}},
		{"b {x x {y y } N }", "[]", []int{1, 0, 0, 0, 0, 0, 0, 1}},
		{"a [x b ] C C S", "0", []int{1, 0, 0, 1, 1, 1, 1}},
		{"a [x a [y b [z x y + ] ] ]", "[]", []int{1, 0, 0, 0, 0, 0, 0, 0, 0, 0, 0, 1}},
	})
	expectCodeRuns(t, "[7]", "[[],[]]", []codeRun{
		{"b [x x ]", "[[],[]]", []int{1, 2, 2, 1}},
		{"b [x x [y y 1 + ] ]", "[[],[]]", []int{1, 2, 2, 0, 0, 0, 0, 2, 1}},
		{"b [x x {y y 1 + } N ]", "[0,0]", []int{1, 2, 2, 0, 0, 0, 0, 2, 2, 1}},
		{"b [x x [y a [z y z + ] ] ]", "[[],[]]", []int{1, 2, 2, 0, 0, 0, 0, 0, 0, 0, 2, 1}},
		{"b [x x [y a ] C ]", "[[],[]]", []int{1, 2, 2, 0, 0, 2, 2, 1}},
		{"a [x b {y y N } [z x ] ]", "[[]]", []int{1, 1, 1, 2, 2, 2, 1, 0, 0, 1, 1}},
		{"b {x 0 } [y a S ]", "[]", []int{1, 2, 2, 1, 0, 0, 0, 1}},
		{"a [x b [y y [z x z + ] S x + ] ]", "[[7,7]]", []int{1, 1, 1, 2, 2, 0, 0, 0, 0, 2, 2, 2, 2, 1, 1}},
	})
}

func TestCodeRunsOfVariablesBoundTwice(t *testing.T) {
	expectCodeRuns(t, "[2,5]", "[[1,2],[],[3]]", []codeRun{
		{"b [x x [x x ] ]", "[[1,2],[],[3]]", []int{1, 3, 3, 3, 3, 3, 1}},
		{"b [x x [x x 1 + ] S x N + ]", "[7,0,5]", []int{1, 3, 3, 3, 3, 3, 3, 3, 3, 3, 3, 3, 1}},
		{"b [x x N x [x x x * ] S + ]", "[7,0,10]", []int{1, 3, 3, 3, 3, 3, 3, 3, 3, 3, 3, 3, 1}},
		{"b [x x {x x 1 - } S x S + ]", "[5,0,6]", []int{1, 3, 3, 3, 3, 3, 3, 3, 3, 3, 3, 3, 1}},
		{"a [x b C [x x ] S x + ]", "[8,11]", []int{1, 2, 2, 2, 6, 6, 2, 2, 2, 2, 1}},
		{"b [x x S ] [x x 1 + ]", "[4,1,4]", []int{1, 3, 3, 3, 1, 3, 3, 3, 3, 1}},
		{"a [x a [y x y - ] [y x y - ] ]", "[[2,2],[2,5]]", []int{1, 2, 2, 4, 4, 4, 4, 2, 4, 4, 4, 4, 2, 1}},
		{"b [x x S ] S a [x x ] S +", "13", []int{1, 3, 3, 3, 1, 1, 1, 2, 2, 1, 1, 1}},
	})
	// Behind its loop, a variable stands for what it did before, also if that is nothing.
	if text, why := impl.RunCode("a [x a [y x ] S x y - + ]", "[2,5]", "[]"); text != "" || why != "wrong" {
		t.Errorf("RunCode of a variable that is not bound = %q, %q", text, why)
	}
}

// What variables stand for is taken once for each part, in the order of the arrays.
func TestCodeRunsOfVariablesWithinLoopsOfDifferentLengths(t *testing.T) {
	expectCodeRuns(t, "[4,0,1]", "[[1,2],[],[3]]", []codeRun{
		{"b [x x [y x S y + ] ]", "[[4,5],[],[6]]", []int{1, 3, 3, 3, 3, 3, 3, 3, 3, 1}},
		{"a [x x I [y x y - ] ]", "[[4,3,2,1],[],[1]]", []int{1, 3, 3, 3, 5, 5, 5, 5, 3, 1}},
		{"a [x x I {y x y 1 + = } ]", "[[3],[],[0]]", []int{1, 3, 3, 3, 5, 5, 5, 5, 5, 5, 3, 1}},
		{"a [x b [y y [z x z + ] ] ]", "[[[5,6],[],[7]],[[1,2],[],[3]],[[2,3],[],[4]]]", []int{1, 3, 3, 9, 9, 9, 9, 9, 9, 9, 3, 1}},
		{"a [x x I [y y I [z x y z + + ] S ] ]", "[[0,5,13,24],[],[0]]", []int{1, 3, 3, 3, 5, 5, 5, 6, 6, 6, 6, 6, 6, 5, 5, 3, 1}},
		{"b {x x [y a y @ ] S }", "[[1,2]]", []int{1, 3, 3, 3, 3, 3, 3, 3, 3, 1}},
		{"b {x a {y y x N < } N 1 - }", "[[1,2]]", []int{1, 3, 3, 9, 9, 9, 9, 9, 3, 3, 3, 3, 1}},
	})
}

// A reasoned is code of two arrays, and why it gives nothing.
type reasoned struct{ code, a, b, why string }

func expectReasons(t *testing.T, list []reasoned) {
	t.Helper()
	for _, c := range list {
		if text, why := impl.RunCode(c.code, c.a, c.b); text != "" || why != c.why {
			t.Errorf("RunCode(%.99q, %.99q, %.99q) = %.99q, %q, not %q", c.code, c.a, c.b, text, why, c.why)
		}
		widths, ok := impl.WidthsOf(c.code, c.a, c.b)
		if c.why != "long" {
			expectNoList(t, "WidthsOf "+c.code, widths, ok)
		} else if !ok || len(widths) != len(impl.InstructionsOf(c.code)) {
			t.Errorf("WidthsOf(%.99q) = %v, %v", c.code, widths, ok)
		}
	}
}

func TestReasonsOfCodeAndWhichComesFirst(t *testing.T) {
	a, b := ones(199), "["+strings.Repeat("[],", 130)+"[]]"
	expectReasons(t, []reasoned{
		{"b [x a ]", a, b, "long"},
		{"b [x b [y a ] C ]", a, b, "work"},
		{"b [y a ] C [x 1 ]", a, b, "work"},
		{"9 I [x 9 I [y 9 I [z 9 I [w w ] S ] ] ]", a, b, "work"},
		// Both are too much work and wrong, or too much work and too long.
		{"b [y a ] C [x 1 z + ]", a, b, "wrong"},
		{"b [y a ] C [x 1 ] x", a, b, "wrong"},
		{"b [y a ] C [x 1 ]", a + " ", b, "wrong"},
		{"b [y a ] C [x 1 ]", a, b + " ", "wrong"},
		{"b [y a ] C [x 1 ]", b, a, "wrong"},
		{"b [y a ] C {x 1 }", a, b, "work"},
		{"b [y b [z a ] C ] C", a, b, "work"},
		// Both are too long and wrong.
		{"b [x a ]", a + " ", b, "wrong"},
		{"b [x a z + ]", a, b, "wrong"},
		{"b [x a] ]", a, b, "wrong"},
	})
	if text, why := impl.RunCode("b [x x ]", "[]", onesOf(400, 2)); text != onesOf(400, 2) || why != "" {
		t.Errorf("RunCode of the longest array = %q, %q", text, why)
	}
}

func TestNoCodeOrArraysToRun(t *testing.T) {
	var list []reasoned
	for _, code := range []string{
		"", " ", "q", "S", "a b", "Sa", "[x:b>Sx]", "b [x x S", "b [x x S }", "b [x x S ] ", " b [x x S ]", "b  [x x S ]", "\x00", "\xff", "a [a 1 ]",
		"x", "x N", "b S", "a I", "1 [x x ]", "a [x x S ]", "a {x a }", "a [x a [y b ] ]", "1 1 @", "a a @", "a 1 +", "1 C", "a C", "b P", "1 M", "a [x y ]", "a [x x ] [y x ]",
		"a" + strings.Repeat(" R", 80), "a" + strings.Repeat(" R", 100), "a" + strings.Repeat(" R", 100000), strings.Repeat("(", 200),
	} {
		list = append(list, reasoned{code, "[1,2]", "[[1,2],[],[3]]", "wrong"}, reasoned{code, "[]", "[]", "wrong"})
	}
	for _, s := range []string{"", " ", "1", "x", "[", "[1", "[1,]", "[ ]", "[] ", "[01]", "[10007]", "[-1]", "[1,[1]]", "[[[1]]]", "\x00", "[\xff]", ones(401), onesOf(401, 2), strings.Repeat("[", 100000)} {
		for _, code := range []string{"1", "a", "b", "b [x x S ]", "a {x x }"} {
			list = append(list, reasoned{code, s, "[]", "wrong"}, reasoned{code, s, "[[1]]", "wrong"}, reasoned{code, "[]", s, "wrong"}, reasoned{code, "[1]", s, "wrong"}, reasoned{code, s, s, "wrong"})
		}
	}
	list = append(list, reasoned{"1", "[[]]", "[]", "wrong"}, reasoned{"1", "[[1]]", "[[1]]", "wrong"}, reasoned{"1", "[]", "[1]", "wrong"}, reasoned{"1", "[1]", "[1]", "wrong"})
	expectReasons(t, list)
}

// expectCodeGives checks what code gives, or why it gives nothing.
func expectCodeGives(t *testing.T, code, a, b, want, reason string) {
	t.Helper()
	if text, why := impl.RunCode(code, a, b); text != want || why != reason {
		t.Errorf("RunCode(%q, %.99q, %.99q) = %.99q, %q, not %.99q, %q", code, a, b, text, why, want, reason)
	}
}

func TestWorkOfCodeToTheLimit(t *testing.T) {
	lists := "[" + strings.Repeat("[],", 110) + "[]]"
	numbers := "[" + strings.Repeat("0,", 42) + "0]"
	for work := 1990; work <= 2010; work++ {
		// 43 times 43, three times 43, and two ahead of that: the ends of loops are no work.
		code, want, why := "a [x a [y 1 ] S ]"+strings.Repeat(" R", work-1981)+" S", "1849", ""
		if work > 2000 {
			want, why = "", "work"
		}
		expectCodeGives(t, code, numbers, lists, want, why)
		_, ok := impl.WidthsOf(code, numbers, lists)
		if ok != (why == "") {
			t.Errorf("WidthsOf(%q) returns %v", code, ok)
		}
	}
	// Two, and for each of 111 lists one for each instruction.
	for _, c := range []struct {
		code, want, why string
	}{
		{"b [x x" + strings.Repeat(" R", 16) + " ]", lists, ""},
		{"b [x x" + strings.Repeat(" R", 17) + " ]", lists, ""},
		{"b [x x" + strings.Repeat(" R", 18) + " ]", "", "work"},
		{"b {x x" + strings.Repeat(" R", 16) + " N }", "[]", ""},
		{"b {x x" + strings.Repeat(" R", 17) + " N }", "", "work"},
		{"b [x x" + strings.Repeat(" R", 17) + " ] R", "", "work"},
	} {
		expectCodeGives(t, c.code, "[]", lists, c.want, c.why)
	}
}

// A loop over more parts than there may be work is too much work, however many they are.
func TestWidthsToTheLimit(t *testing.T) {
	for count, want := range map[int]string{1: "12", 164: "1968", 165: "1980", 166: "1992", 167: "2004", 199: "2388"} {
		a, why := "["+strings.Repeat("7,", count-1)+"7]", ""
		expectCodeGives(t, "5 5 2 + + I [y a ] C N", a, "[]", want, "")
		// The other instructions are 22 more.
		if count > 164 {
			want, why = "", "work"
		}
		expectCodeGives(t, "5 5 2 + + I [y a ] C [x 1 ] N", a, "[]", want, why)
		expectCodeGives(t, "5 5 2 + + I [y a ] C {x 1 } N", a, "[]", want, why)
	}
	lists := "[" + strings.Repeat("[],", 132) + "[]]"
	expectCodeGives(t, "b [y a ] C {x 1 }", ones(399), lists, "", "work")
	expectCodeGives(t, "b [w b [x b [y b [z b N ] S ] ] ]", "[]", lists, "", "work")
}

func TestCodeOfAllSmallTermsRuns(t *testing.T) {
	for _, list := range picturesUpTo(11) {
		for _, p := range list {
			expectWidths(t, p, numbersTree(), listsTree())
			expectWidths(t, p, numbersTree(2, 0, 1), listsTree(numbersTree(), numbersTree(10006, 3)))
		}
	}
}

func TestFlatCodeGivesWhatItsTermGives(t *testing.T) {
	expectRandomRuns(t, rand.New(rand.NewSource(84)), 5000, func(p picture, a, b tree, _ ran) {
		expectWidths(t, p, a, b)
	})
}

// What comes in is run as it would be run alone, be it a term of its own or the second part of a loop over one part.
func TestCodeWithinALoopOverOnePart(t *testing.T) {
	source := rand.New(rand.NewSource(85))
	for range 2000 {
		p := randomOfDepth(source, scope{"a": 1, "b": 2}, source.Intn(3), 1+source.Intn(12))
		a, b := fewNumbers(source), fewLists(source)
		want, ok := p.run(a, b)
		if around := "1 I [z " + p.code() + " ]"; ok && want.why == "" && len(p.text()) < 70 && want.work < 1900 {
			if len(want.text) <= 398 {
				expectCodeGives(t, around, a.text(), b.text(), "["+want.text+"]", "")
			}
			alone, _ := impl.WidthsOf(p.code(), a.text(), b.text())
			widths, ok := impl.WidthsOf(around, a.text(), b.text())
			expectList(t, "WidthsOf "+around, widths, ok, slices.Concat([]int{1, 1, 1}, alone, []int{1}))
		}
	}
}

// marked returns a vector whose lists have room behind them with a mark of its own.
func marked(v impl.Vector) impl.Vector {
	given := impl.Vector{Count: v.Count, Layout: impl.Layout{Data: roomy(v.Data, -7)}}
	for _, lengths := range v.Lengths {
		given.Lengths = append(given.Lengths, roomy(lengths, -7))
	}
	given.Lengths = roomy(given.Lengths, []int{-7})
	return given
}

func TestVectorsAreNewMemory(t *testing.T) {
	parts := roomy([]string{"[[[1],[2]],[[3],[4]],[]]", "[]", "[[[5,6]]]"}, "left")
	first, _ := impl.PackVector(parts, 3)
	second, _ := impl.PackVector(parts, 3)
	given, numbers, at := marked(first), marked(vectorOf(0, numberTree(4), numberTree(5))), roomy([]int{2, 0, 2, 1}, -7)
	before := fmt.Sprint(whole(given.Layout), whole(numbers.Layout))
	picked, _ := impl.PickVector(given, at)
	texts, _ := impl.UnpackVector(given)
	results := []impl.Vector{first, second, picked}
	for _, sign := range []string{"R", "C", "N"} {
		got, ok := impl.DoInstruction(sign, roomy([]impl.Vector{given}, numbers))
		if !ok {
			t.Errorf("DoInstruction(%q) returns false", sign)
		}
		results = append(results, got)
	}
	for _, sign := range []string{"+", "^", "-"} {
		got, ok := impl.DoInstruction(sign, []impl.Vector{numbers, numbers})
		if !ok {
			t.Errorf("DoInstruction(%q) returns false", sign)
		}
		results = append(results, got)
	}
	if !impl.VectorValid(given) || impl.FormatVector(given) != impl.FormatVector(first) || !slices.Equal(texts, parts) {
		t.Errorf("the vector is taken as %q", texts)
	}
	var lists [][]int
	for _, v := range results {
		lists = append(lists, whole(v.Layout)...)
	}
	if !markAll(lists) {
		t.Error("results share memory")
	}
	if after := fmt.Sprint(whole(given.Layout), whole(numbers.Layout)); after != before {
		t.Errorf("the arguments are changed from %v to %v", before, after)
	}
	if !slices.Equal(at[:7], []int{2, 0, 2, 1, -7, -7, -7}) || !slices.Equal(parts[:6], []string{"[[[1],[2]],[[3],[4]],[]]", "[]", "[[[5,6]]]", "left", "left", "left"}) {
		t.Errorf("the indices are changed to %v, the parts to %q", at[:7], parts[:6])
	}
}

func TestWidthsAreNewMemory(t *testing.T) {
	widths, _ := impl.WidthsOf("b [x x S ]", "[1,2]", "[[1,2],[],[3]]")
	others, _ := impl.WidthsOf("b [x x S ]", "[1,2]", "[[1,2],[],[3]]")
	if !markAll([][]int{widths[:cap(widths)], others[:cap(others)]}) {
		t.Error("WidthsOf keeps memory")
	}
	again, ok := impl.WidthsOf("b [x x S ]", "[1,2]", "[[1,2],[],[3]]")
	expectList(t, "WidthsOf again", again, ok, []int{1, 3, 3, 3, 1})
}
