package tests

import (
	"fmt"
	"math"
	"math/rand"
	"slices"
	"strings"
	"testing"

	"loop.example/flatarrays/impl"
)

// onesTree returns the array whose text is onesOf(size, depth).
func onesTree(size int, depth int) tree {
	if depth > 1 {
		return tree{depth: depth, parts: []tree{onesTree(size-2, depth-1)}}
	}
	a := tree{depth: 1, parts: slices.Repeat([]tree{{value: 1}}, (size-1)/2)}
	if size%2 == 0 {
		a.parts[0].value = 11
	}
	return a
}

// emptyTree returns an array of the depth 2 with so many parts, which have none.
func emptyTree(count int) tree {
	return tree{depth: 2, parts: slices.Repeat([]tree{{depth: 1}}, count)}
}

func (a tree) layout() impl.Layout { return layoutOfRow([]tree{a}, a.depth) }

// layoutOfRow returns the layout of arrays of a depth that lie one behind another, row by row.
func layoutOfRow(row []tree, depth int) impl.Layout {
	l := impl.Layout{}
	for range depth {
		lengths := []int{}
		next := []tree{}
		for _, one := range row {
			lengths = append(lengths, len(one.parts))
			next = append(next, one.parts...)
		}
		l.Lengths = append(l.Lengths, lengths)
		row = next
	}
	for _, one := range row {
		l.Data = append(l.Data, one.value)
	}
	return l
}

// formatted returns what FormatLayout is to return.
func formatted(l impl.Layout) string {
	words := []string{}
	for _, list := range append(slices.Clone(l.Lengths), l.Data) {
		words = append(words, strings.Trim(fmt.Sprint(list), "[]"))
	}
	for i, word := range words {
		if word == "" {
			words[i] = "-"
		}
	}
	return strings.Join(words, "|")
}

func sameLayouts(a impl.Layout, b impl.Layout) bool {
	return slices.EqualFunc(a.Lengths, b.Lengths, slices.Equal) && slices.Equal(a.Data, b.Data)
}

// expectLayout checks all functions with the layout of an array, whose text may be too long.
func expectLayout(t *testing.T, a tree) {
	t.Helper()
	want, s := a.layout(), a.text()
	fits := len(s) <= impl.MaxText
	expectValid(t, want)
	if l, ok := impl.LayOut(s, a.depth); ok != fits || ok && !sameLayouts(l, want) || !ok && !isZeroLayout(l) {
		t.Errorf("LayOut(%.50q, %d) = %.50s, %v, not %.50s, %v", s, a.depth, fmt.Sprint(l), ok, fmt.Sprint(want), fits)
	}
	if got, ok := impl.FoldUp(want); ok != fits || ok && got != s || !ok && got != "" {
		t.Errorf("FoldUp(%.50s) = %.50q, %v, not %.50q, %v", fmt.Sprint(want), got, ok, s, fits)
	}
	expectInner(t, a)
}

func isZeroLayout(l impl.Layout) bool {
	return len(l.Lengths) == 0 && len(l.Data) == 0
}

// expectValid checks that a layout is taken as valid, and is told from its text.
func expectValid(t *testing.T, l impl.Layout) {
	t.Helper()
	if !impl.LayoutValid(l) || impl.WhatIsWrong(l) != -1 {
		t.Errorf("%.50s is not valid: %d", fmt.Sprint(l), impl.WhatIsWrong(l))
	}
	text := impl.FormatLayout(l)
	if text != formatted(l) {
		t.Errorf("FormatLayout(%.50s) = %.50q", fmt.Sprint(l), text)
	}
	if back, ok := impl.ParseLayout(text); !ok || !sameLayouts(back, l) {
		t.Errorf("ParseLayout(%.50q) = %.50s, %v", text, fmt.Sprint(back), ok)
	}
}

// expectInner checks the layouts of the parts of an array.
func expectInner(t *testing.T, a tree) {
	t.Helper()
	list, ok := impl.InnerOf(a.layout())
	if ok != (a.depth > 0) || len(list) != len(a.parts) {
		t.Errorf("InnerOf(%.50s) = %.50s, %v", fmt.Sprint(a.layout()), fmt.Sprint(list), ok)
		return
	}
	for i, part := range a.parts {
		if !sameLayouts(list[i], part.layout()) {
			t.Errorf("InnerOf(%.50s) has %.50s at %d", fmt.Sprint(a.layout()), fmt.Sprint(list[i]), i)
		}
	}
}

// expectWrong checks that a layout is wrong at a level, and that no function takes it.
func expectWrong(t *testing.T, l impl.Layout, level int) {
	t.Helper()
	if got := impl.WhatIsWrong(l); got != level || impl.LayoutValid(l) {
		t.Errorf("WhatIsWrong(%.50s) = %d, not %d", fmt.Sprint(l), got, level)
	}
	if got, ok := impl.FoldUp(l); got != "" || ok {
		t.Errorf("FoldUp(%.50s) = %.50q, %v", fmt.Sprint(l), got, ok)
	}
	if list, ok := impl.InnerOf(l); len(list) != 0 || ok {
		t.Errorf("InnerOf(%.50s) = %.50s, %v", fmt.Sprint(l), fmt.Sprint(list), ok)
	}
	if got := impl.PlaceOf(l, make([]int, len(l.Lengths))); got != -1 {
		t.Errorf("PlaceOf(%.50s) = %d", fmt.Sprint(l), got)
	}
	text := impl.FormatLayout(l)
	if text != formatted(l) {
		t.Errorf("FormatLayout(%.50s) = %.50q", fmt.Sprint(l), text)
	}
	expectNoText(t, text)
}

// expectNoText checks that a text is that of no valid layout.
func expectNoText(t *testing.T, s string) {
	t.Helper()
	if l, ok := impl.ParseLayout(s); !isZeroLayout(l) || ok {
		t.Errorf("ParseLayout(%.50q) = %.50s, %v", s, fmt.Sprint(l), ok)
	}
}

func TestLayoutsAreFoldedUpToTheirArrays(t *testing.T) {
	source := rand.New(rand.NewSource(2))
	for range 3000 {
		a := randomTree(source, source.Intn(impl.MaxNested+1))
		expectLayout(t, a)
		expectPlaces(t, a, source)
	}
}

// expectPlaces checks the places of all numbers of an array, then some of any paths.
func expectPlaces(t *testing.T, a tree, source *rand.Rand) {
	t.Helper()
	l := a.layout()
	count := 0
	var walk func(a tree, path []int)
	walk = func(a tree, path []int) {
		if a.depth == 0 {
			if got := impl.PlaceOf(l, path); got != count {
				t.Errorf("PlaceOf(%.50s, %v) = %d, not %d", fmt.Sprint(l), path, got, count)
			}
			count++
		}
		for i, part := range a.parts {
			walk(part, append(path, i))
		}
	}
	walk(a, nil)
	for range 20 {
		path := make([]int, a.depth)
		for i := range path {
			path[i] = source.Intn(7) - 1
		}
		value, ok := a.at(path)
		place := impl.PlaceOf(l, path)
		if ok != (place >= 0) || place < -1 || ok && l.Data[place] != value {
			t.Errorf("PlaceOf(%.50s, %v) = %d", fmt.Sprint(l), path, place)
		}
	}
}

// at returns the number at a path, and whether there is one.
func (a tree) at(path []int) (int, bool) {
	if len(path) == 0 {
		return a.value, a.depth == 0
	}
	if path[0] < 0 || path[0] >= len(a.parts) {
		return 0, false
	}
	return a.parts[path[0]].at(path[1:])
}

func TestLayOut(t *testing.T) {
	for _, c := range []struct {
		s     string
		depth int
		want  string
	}{
		{"0", 0, "0"},
		{"10006", 0, "10006"},
		{"[]", 1, "0|-"},
		{"[0]", 1, "1|0"},
		{"[7,7,0]", 1, "3|7 7 0"},
		{"[]", 2, "0|-|-"},
		{"[[]]", 2, "1|0|-"},
		{"[[],[]]", 2, "2|0 0|-"},
		{"[[1,2],[],[3]]", 2, "3|2 0 1|1 2 3"},
		{"[]", 3, "0|-|-|-"},
		{"[[]]", 3, "1|0|-|-"},
		{"[[],[]]", 3, "2|0 0|-|-"},
		{"[[[]]]", 3, "1|1|0|-"},
		{"[[[]],[],[[],[]]]", 3, "3|1 0 2|0 0 0|-"},
		{"[[],[[4,5],[],[6]],[[7]]]", 3, "3|0 3 1|2 0 1 1|4 5 6 7"},
	} {
		l, ok := impl.LayOut(c.s, c.depth)
		if got := impl.FormatLayout(l); got != c.want || !ok || len(l.Lengths) != c.depth {
			t.Errorf("LayOut(%q, %d) = %q, %v", c.s, c.depth, got, ok)
		}
		if s, ok := impl.FoldUp(l); s != c.s || !ok {
			t.Errorf("FoldUp(%q) = %q, %v", c.want, s, ok)
		}
		if back, ok := impl.ParseLayout(c.want); !ok || !sameLayouts(back, l) {
			t.Errorf("ParseLayout(%q) = %v, %v", c.want, back, ok)
		}
	}
}

func TestLayOutOfNoArray(t *testing.T) {
	for _, c := range []struct {
		s     string
		depth int
	}{
		{"", 0}, {"", 1}, {"x", 0}, {"-1", 0}, {"01", 0}, {"10007", 0}, {"[]", 0}, {"[7]", 0}, {"7", 1}, {"7", 2}, {"[", 1}, {"[1,]", 1},
		{"[01]", 1}, {"[10007]", 1}, {"[[]]", 1}, {"[1]", 2}, {"[[1],2]", 2}, {"[[[]]]", 2}, {"[1]", 3}, {"[[1]]", 3}, {"[[[[]]]]", 3},
		{"3|2 0 1|1 2 3", 2},
	} {
		expectNoLayout(t, c.s, c.depth)
	}
	for _, depth := range noDepths {
		for _, s := range []string{"", "1", "[]", "[1]", "[[]]", "[[[]]]", "[[[[]]]]"} {
			expectNoLayout(t, s, depth)
		}
	}
}

func expectNoLayout(t *testing.T, s string, depth int) {
	t.Helper()
	if l, ok := impl.LayOut(s, depth); !isZeroLayout(l) || ok {
		t.Errorf("LayOut(%.50q, %d) = %v, %v", s, depth, l, ok)
	}
}

func TestLayoutsOfLongestTexts(t *testing.T) {
	for depth := 1; depth <= impl.MaxNested; depth++ {
		for _, size := range []int{impl.MaxText - 1, impl.MaxText, impl.MaxText + 1, impl.MaxText + 2, 2 * impl.MaxText} {
			a := onesTree(size, depth)
			if a.text() != onesOf(size, depth) {
				t.Fatalf("onesTree(%d, %d) is another array", size, depth)
			}
			expectLayout(t, a)
		}
	}
	for _, count := range []int{132, 133, 134, 400} {
		expectLayout(t, emptyTree(count))
		expectLayout(t, tree{depth: 3, parts: []tree{emptyTree(count)}})
		expectLayout(t, tree{depth: 3, parts: []tree{{depth: 2}, emptyTree(count - 2)}})
	}
	// Each part fits, but not all of them.
	expectLayout(t, tree{depth: 2, parts: []tree{onesTree(200, 1), onesTree(197, 1)}})
	expectLayout(t, tree{depth: 2, parts: []tree{onesTree(200, 1), onesTree(198, 1)}})
	expectLayout(t, tree{depth: 3, parts: []tree{onesTree(200, 2), onesTree(197, 2)}})
	expectLayout(t, tree{depth: 3, parts: []tree{onesTree(200, 2), onesTree(198, 2)}})
}

func TestGreatLayoutsThatAreValid(t *testing.T) {
	expectLayout(t, tree{depth: 3, parts: slices.Repeat([]tree{emptyTree(impl.MaxText)}, impl.MaxText)})
	wide := tree{depth: 2, parts: slices.Repeat([]tree{onesTree(2*impl.MaxText+1, 1)}, impl.MaxText)}
	expectLayout(t, wide)
	if got := impl.PlaceOf(wide.layout(), []int{399, 399}); got != 159999 {
		t.Errorf("PlaceOf = %d", got)
	}
	if got := impl.PlaceOf(wide.layout(), []int{399, 400}); got != -1 {
		t.Errorf("PlaceOf = %d", got)
	}
}

func TestLimitsOfLayouts(t *testing.T) {
	for levels := 1; levels <= impl.MaxNested; levels++ {
		ahead := slices.Repeat([][]int{{1}}, levels-1)
		for _, c := range []struct {
			length int
			ok     bool
		}{{0, true}, {1, true}, {399, true}, {400, true}, {401, false}, {402, false}, {10006, false}, {-1, false}, {math.MinInt, false}, {math.MaxInt, false}} {
			l := impl.Layout{Lengths: append(slices.Clone(ahead), []int{c.length}), Data: make([]int, min(max(c.length, 0), 20000))}
			if c.ok {
				expectValid(t, l)
			} else {
				expectWrong(t, l, levels-1)
			}
		}
	}
	for levels := range impl.MaxNested + 1 {
		lengths := slices.Repeat([][]int{{1}}, levels)
		for _, n := range []int{0, 1, 400, 401, 9999, 10005, 10006} {
			expectValid(t, impl.Layout{Lengths: lengths, Data: []int{n}})
		}
		for _, n := range []int{-1, -2, 10007, 10008, 20000, math.MinInt, math.MaxInt} {
			expectWrong(t, impl.Layout{Lengths: lengths, Data: []int{n}}, levels)
		}
	}
	for _, level := range []int{1, 2} {
		l := impl.Layout{Lengths: [][]int{{1}, {1}, {1}}, Data: []int{5}}
		l.Lengths[level-1] = []int{400}
		for i := level; i < 3; i++ {
			l.Lengths[i] = slices.Repeat([]int{1}, 400)
		}
		l.Data = slices.Repeat([]int{5}, 400)
		expectValid(t, l)
		l.Lengths[level][399] = 401
		expectWrong(t, l, level)
		l.Lengths[level][399] = -1
		expectWrong(t, l, level)
	}
}

func TestTooManyLevels(t *testing.T) {
	for levels := impl.MaxNested + 1; levels < 9; levels++ {
		l := impl.Layout{Lengths: slices.Repeat([][]int{{1}}, levels), Data: []int{1}}
		expectWrong(t, l, impl.MaxNested)
		l.Data = nil
		expectWrong(t, l, impl.MaxNested)
		l.Lengths[levels-1] = []int{-1, 401}
		expectWrong(t, l, impl.MaxNested)
		l.Lengths[2] = []int{401}
		expectWrong(t, l, 2)
		l.Lengths[0] = nil
		expectWrong(t, l, 0)
	}
	expectWrong(t, impl.Layout{Lengths: make([][]int, 4)}, 0)
	expectWrong(t, impl.Layout{Lengths: [][]int{{0}, {}, {}, {}}}, 3)
	expectWrong(t, impl.Layout{Lengths: make([][]int, 1000)}, 0)
}

func TestWhatIsWrong(t *testing.T) {
	for _, c := range []struct {
		l     impl.Layout
		level int
	}{
		{impl.Layout{}, 0},
		{impl.Layout{Data: []int{1, 2}}, 0},
		{impl.Layout{Lengths: [][]int{{}}}, 0},
		{impl.Layout{Lengths: [][]int{{}}, Data: []int{1}}, 0},
		{impl.Layout{Lengths: [][]int{{1, 1}}, Data: []int{1, 2}}, 0},
		{impl.Layout{Lengths: [][]int{{0, 0}}}, 0},
		{impl.Layout{Lengths: [][]int{{0}}, Data: []int{0}}, 1},
		{impl.Layout{Lengths: [][]int{{2}}, Data: []int{1}}, 1},
		{impl.Layout{Lengths: [][]int{{2}}, Data: []int{1, 2, 3}}, 1},
		{impl.Layout{Lengths: [][]int{{2}}, Data: []int{1, -1}}, 1},
		{impl.Layout{Lengths: [][]int{{0}, {0}}}, 1},
		{impl.Layout{Lengths: [][]int{{1}, {}}}, 1},
		{impl.Layout{Lengths: [][]int{{2}, {1}}, Data: []int{1}}, 1},
		{impl.Layout{Lengths: [][]int{{1}, {1, 0}}, Data: []int{1}}, 1},
		{impl.Layout{Lengths: [][]int{{2}, {2, -1}}, Data: []int{1}}, 1},
		{impl.Layout{Lengths: [][]int{{2}, {math.MaxInt, math.MaxInt}}}, 1},
		{impl.Layout{Lengths: [][]int{{2}, {math.MinInt, math.MinInt}}}, 1},
		{impl.Layout{Lengths: [][]int{{2}, {1, 1}}, Data: []int{1}}, 2},
		{impl.Layout{Lengths: [][]int{{2}, {0, 0}}, Data: []int{1}}, 2},
		{impl.Layout{Lengths: [][]int{{2}, {1, 2}, {1, 1}}, Data: []int{1, 1}}, 2},
		{impl.Layout{Lengths: [][]int{{2}, {1, 2}, {1, 1, 0, 0}}, Data: []int{1, 1}}, 2},
		{impl.Layout{Lengths: [][]int{{2}, {1, 2}, {1, -1, 1}}, Data: []int{1}}, 2},
		{impl.Layout{Lengths: [][]int{{0}, {}, {0}}}, 2},
		{impl.Layout{Lengths: [][]int{{2}, {1, 2}, {1, 0, 1}}, Data: []int{1}}, 3},
		{impl.Layout{Lengths: [][]int{{2}, {1, 2}, {1, 0, 1}}, Data: []int{1, 10007}}, 3},
		{impl.Layout{Lengths: [][]int{{0}, {}, {}}, Data: []int{0}}, 3},
		// Of several ones, it is the first.
		{impl.Layout{Lengths: [][]int{{-1}, {-1}, {-1}}, Data: []int{-1}}, 0},
		{impl.Layout{Lengths: [][]int{{1}, {-1}, {-1}}, Data: []int{-1}}, 1},
		{impl.Layout{Lengths: [][]int{{1}, {1}, {-1}}, Data: []int{-1}}, 2},
	} {
		expectWrong(t, c.l, c.level)
	}
}

// rightAt reports whether a level of a layout, or Data, is right after the level before it.
func rightAt(l impl.Layout, level int) bool {
	list, greatest := l.Data, 10006
	if level < len(l.Lengths) {
		list, greatest = l.Lengths[level], 400
	}
	count := 1
	if level > 0 {
		count = 0
		for _, length := range l.Lengths[level-1] {
			count += length
		}
	}
	return len(list) == count && !slices.ContainsFunc(list, func(n int) bool { return n < 0 || n > greatest })
}

func TestAllSmallLayouts(t *testing.T) {
	lists := [][]int{{}}
	for _, n := range []int{-1, 0, 1, 2} {
		lists = append(lists, []int{n}, []int{n, -1}, []int{n, 0}, []int{n, 1}, []int{n, 2})
	}
	valid := 0
	var check func(l impl.Layout)
	check = func(l impl.Layout) {
		for _, l.Data = range lists {
			level := 0
			for level <= len(l.Lengths) && rightAt(l, level) {
				level++
			}
			if level <= len(l.Lengths) {
				expectWrong(t, l, level)
				continue
			}
			valid++
			s, ok := impl.FoldUp(l)
			if back, fine := impl.LayOut(s, len(l.Lengths)); !ok || !fine || !sameLayouts(back, l) {
				t.Errorf("FoldUp(%v) = %q, %v", l, s, ok)
			}
			expectValid(t, l)
		}
		if len(l.Lengths) < impl.MaxNested {
			for _, list := range lists {
				check(impl.Layout{Lengths: append(slices.Clone(l.Lengths), list)})
			}
		}
	}
	check(impl.Layout{})
	if valid < 100 {
		t.Errorf("only %d layouts are valid", valid)
	}
}

func TestFormatLayout(t *testing.T) {
	for _, c := range []struct {
		l    impl.Layout
		want string
	}{
		{impl.Layout{}, "-"},
		{impl.Layout{Data: []int{0}}, "0"},
		{impl.Layout{Data: []int{3, 20, 100}}, "3 20 100"},
		{impl.Layout{Lengths: [][]int{nil}}, "-|-"},
		{impl.Layout{Lengths: [][]int{nil}, Data: []int{4}}, "-|4"},
		{impl.Layout{Lengths: [][]int{{}, {5}, nil, {6, 7}}}, "-|5|-|6 7|-"},
		{impl.Layout{Lengths: [][]int{{-1, -20}}, Data: []int{-300, 0}}, "-1 -20|-300 0"},
		{impl.Layout{Lengths: [][]int{{math.MaxInt64}}, Data: []int{math.MinInt64}}, "9223372036854775807|-9223372036854775808"},
		{impl.Layout{Lengths: [][]int{{3}, {2, 0, 1}}, Data: []int{1, 2, 3}}, "3|2 0 1|1 2 3"},
	} {
		if got := impl.FormatLayout(c.l); got != c.want {
			t.Errorf("FormatLayout(%v) = %q, not %q", c.l, got, c.want)
		}
	}
	long := impl.Layout{Lengths: slices.Repeat([][]int{{12}}, 500), Data: slices.Repeat([]int{10006}, 500)}
	if want := strings.Repeat("12|", 500) + strings.Repeat(" 10006", 500)[1:]; impl.FormatLayout(long) != want {
		t.Errorf("FormatLayout = %.50q", impl.FormatLayout(long))
	}
}

func TestParseLayoutOfOtherTexts(t *testing.T) {
	for _, s := range []string{
		"", " ", "|", "||", "|||", "-", "--", "-|", "|-", "-|-", "-|-|-|-", "x", "1|x", "x|1", "-0", "+0", "+1", "-1", "00", "01", "1|01", "01|1", "1|+1", "+1|1",
		" 1", "1 ", "1 2", "1,2", "1\n", "\n1", "\t1", "1.0", "1e0", "0x1", "0b1", "1_0", "1_000", "10007", "20000", "99999", "１", "١", "1\x00", "\x001", "\xff",
		"0|", "0|0", "0| ", "0|--", "0|- ", "0| -", "-|0", "0|-|", "|0|-", "0|-|0", "0||", "0|- -", "0|-|-|-|-", "0|-|-|-|", "1|-", "1|1 1", "1||1", "1|1|", "1|1|1|1|1",
		"2|1", "2|1  2", "2| 1 2", "2|1 2 ", "2 |1 2", " 2|1 2", "2|1 2 3", "2|1,2", "2|1\t2", "2|1 -", "2|1 -2", "2|1 x", "2|1 02", "2|1 10007", "2|1 2|", "2|1 2\n",
		"1 1|1 1", "1 1|1 1|1 1", "2|1|1", "2|1 1|1", "2|1 1|1 2 3", "2|1 1 0|1 2", "2|0 -|-", "2|3 -1|1 2", "1|-1|-", "-1|-", "401|" + strings.Repeat(" 1", 401)[1:],
		"1|401|" + strings.Repeat(" 1", 401)[1:], "18446744073709551617", "18446744073709551617|1", "9223372036854775808", "1|18446744073709551617", strings.Repeat("9", 1000),
		"4294967296", "[]", "[1]", "7*1", "3|2 0 1|1 2 3|", "|3|2 0 1|1 2 3", "3|2 0 1|1 2 3 ", "3|2 0 1|1 2", "3|2 0 1|", "3|2 0|1 2", strings.Repeat("|", 100000), strings.Repeat("1|", 100000) + "1",
	} {
		expectNoText(t, s)
	}
	for _, s := range []string{"400|" + strings.Repeat(" 10006", 400)[1:], "1|400|" + strings.Repeat(" 0", 400)[1:], "1|1|400|" + strings.Repeat(" 17", 400)[1:]} {
		if l, ok := impl.ParseLayout(s); !ok || formatted(l) != s {
			t.Errorf("ParseLayout(%.50q) = %.50s, %v", s, fmt.Sprint(l), ok)
		}
	}
}

// shortLists returns all lists of so many numbers whose texts have the digits 0 to 2, and at most so many bytes.
func shortLists(count int, room int, greatest int) [][]int {
	if count == 0 {
		return [][]int{nil}
	}
	var lists [][]int
	for n := 0; n <= greatest && len(fmt.Sprint(n)) <= room; n++ {
		if strings.Trim(fmt.Sprint(n), "012") != "" {
			continue
		}
		for _, rest := range shortLists(count-1, room-len(fmt.Sprint(n))-1, greatest) {
			lists = append(lists, append([]int{n}, rest...))
		}
	}
	return lists
}

// shortLayouts returns the texts of all valid layouts that begin with some levels and go on with at most so many bytes of the digits 0 to 2.
func shortLayouts(l impl.Layout, room int) []string {
	count := 1
	if len(l.Lengths) > 0 {
		count = 0
		for _, length := range l.Lengths[len(l.Lengths)-1] {
			count += length
		}
	}
	var texts []string
	if room > 0 && count <= room {
		for _, data := range shortLists(count, room, 10006) {
			texts = append(texts, formatted(impl.Layout{Lengths: l.Lengths, Data: data}))
		}
	}
	if len(l.Lengths) < 3 && room > 0 && count <= room {
		for _, lengths := range shortLists(count, room, 400) {
			size := len(formatted(impl.Layout{Data: lengths})) + len("|")
			texts = append(texts, shortLayouts(impl.Layout{Lengths: append(slices.Clone(l.Lengths), lengths)}, room-size)...)
		}
	}
	return texts
}

func TestAllShortTextsOfLayouts(t *testing.T) {
	const size = 7
	valid := map[string]bool{}
	for _, s := range shortLayouts(impl.Layout{}, size) {
		if len(s) <= size {
			valid[s] = true
		}
	}
	found := 0
	var check func(s string)
	check = func(s string) {
		l, ok := impl.ParseLayout(s)
		if ok != valid[s] || ok && formatted(l) != s || !ok && !isZeroLayout(l) {
			t.Errorf("ParseLayout(%q) = %v, %v", s, l, ok)
		}
		if ok {
			found++
		}
		for _, c := range "|- 012" {
			if len(s) < size {
				check(s + string(c))
			}
		}
	}
	check("")
	if found != len(valid) || found < 100 {
		t.Errorf("%d texts of %d are those of layouts", found, len(valid))
	}
}

func TestInnerOf(t *testing.T) {
	for _, c := range []struct {
		text string
		want []string
	}{
		{"0|-", nil},
		{"0|-|-", nil},
		{"0|-|-|-", nil},
		{"1|10006", []string{"10006"}},
		{"3|5 0 6", []string{"5", "0", "6"}},
		{"2|0 0|-", []string{"0|-", "0|-"}},
		{"3|2 0 1|1 2 3", []string{"2|1 2", "0|-", "1|3"}},
		{"2|0 0|-|-", []string{"0|-|-", "0|-|-"}},
		{"1|1|0|-", []string{"1|0|-"}},
		{"3|0 3 1|2 0 1 1|4 5 6 7", []string{"0|-|-", "3|2 0 1|4 5 6", "1|1|7"}},
	} {
		l, ok := impl.ParseLayout(c.text)
		if !ok {
			t.Errorf("ParseLayout(%q) = %v, %v", c.text, l, ok)
		}
		list, ok := impl.InnerOf(l)
		var texts []string
		for _, part := range list {
			texts = append(texts, impl.FormatLayout(part))
		}
		if !ok || !slices.Equal(texts, c.want) {
			t.Errorf("InnerOf(%q) = %q, %v", c.text, texts, ok)
		}
	}
	for _, n := range []int{0, 7, 10006, 10007} {
		if list, ok := impl.InnerOf(impl.Layout{Data: []int{n}}); len(list) != 0 || ok {
			t.Errorf("InnerOf(%d) = %v, %v", n, list, ok)
		}
	}
}

func TestPlaceOf(t *testing.T) {
	for _, c := range []struct {
		text string
		path []int
		want int
	}{
		{"7", nil, 0},
		{"7", []int{}, 0},
		{"7", []int{0}, -1},
		{"7", []int{-1}, -1},
		{"0|-", []int{0}, -1},
		{"0|-", nil, -1},
		{"3|5 0 6", []int{0}, 0},
		{"3|5 0 6", []int{2}, 2},
		{"3|5 0 6", []int{3}, -1},
		{"3|5 0 6", []int{-1}, -1},
		{"3|5 0 6", []int{math.MinInt}, -1},
		{"3|5 0 6", []int{math.MaxInt}, -1},
		{"3|5 0 6", nil, -1},
		{"3|5 0 6", []int{0, 0}, -1},
		{"0|-|-", []int{0, 0}, -1},
		{"0|-|-|-", []int{0, 0, 0}, -1},
		{"3|2 0 1|1 2 3", []int{0, 0}, 0},
		{"3|2 0 1|1 2 3", []int{0, 1}, 1},
		{"3|2 0 1|1 2 3", []int{0, 2}, -1},
		{"3|2 0 1|1 2 3", []int{0, -1}, -1},
		{"3|2 0 1|1 2 3", []int{1, 0}, -1},
		{"3|2 0 1|1 2 3", []int{1, -1}, -1},
		{"3|2 0 1|1 2 3", []int{2, 0}, 2},
		{"3|2 0 1|1 2 3", []int{2, -1}, -1},
		{"3|2 0 1|1 2 3", []int{2, 1}, -1},
		{"3|2 0 1|1 2 3", []int{3, 0}, -1},
		{"3|2 0 1|1 2 3", []int{-1, 0}, -1},
		{"3|2 0 1|1 2 3", []int{math.MaxInt, 0}, -1},
		{"3|2 0 1|1 2 3", []int{2, math.MaxInt}, -1},
		{"3|2 0 1|1 2 3", []int{0}, -1},
		{"3|2 0 1|1 2 3", []int{0, 0, 0}, -1},
		{"3|0 3 1|2 0 1 1|4 5 6 7", []int{0, 0, 0}, -1},
		{"3|0 3 1|2 0 1 1|4 5 6 7", []int{1, 0, 1}, 1},
		{"3|0 3 1|2 0 1 1|4 5 6 7", []int{1, 0, 2}, -1},
		{"3|0 3 1|2 0 1 1|4 5 6 7", []int{1, 1, 0}, -1},
		{"3|0 3 1|2 0 1 1|4 5 6 7", []int{1, 2, 0}, 2},
		{"3|0 3 1|2 0 1 1|4 5 6 7", []int{1, 3, 0}, -1},
		{"3|0 3 1|2 0 1 1|4 5 6 7", []int{2, 0, 0}, 3},
		{"3|0 3 1|2 0 1 1|4 5 6 7", []int{2, -1, 0}, -1},
		{"3|0 3 1|2 0 1 1|4 5 6 7", []int{2, 1, 0}, -1},
		{"3|0 3 1|2 0 1 1|4 5 6 7", []int{2, 0}, -1},
	} {
		l, ok := impl.ParseLayout(c.text)
		if got := impl.PlaceOf(l, c.path); got != c.want || !ok {
			t.Errorf("PlaceOf(%q, %v) = %d, not %d", c.text, c.path, got, c.want)
		}
	}
}

// roomy returns a copy of a list with room behind it that has a mark of its own.
func roomy[T any](list []T, mark T) []T {
	return append(slices.Clone(list), mark, mark, mark)[:len(list)]
}

// whole returns the numbers of a layout and of the room behind them.
func whole(l impl.Layout) [][]int {
	lists := [][]int{l.Data[:cap(l.Data)]}
	for _, lengths := range l.Lengths[:cap(l.Lengths)] {
		lists = append(lists, lengths[:cap(lengths)])
	}
	return lists
}

// markAll writes a number of its own over each list and the room behind it, and returns whether each list still has its own one afterwards.
func markAll(lists [][]int) bool {
	for i, list := range lists {
		for j := range list {
			list[j] = -1000 - i
		}
	}
	for i, list := range lists {
		if slices.ContainsFunc(list, func(n int) bool { return n != -1000-i }) {
			return false
		}
	}
	return true
}

func TestLayoutsAreNewMemory(t *testing.T) {
	for _, s := range []string{"[[],[[4,5],[],[6]],[[7]]]", "[[[1],[2]],[[3],[4]],[]]"} {
		first, _ := impl.LayOut(s, 3)
		second, _ := impl.ParseLayout(impl.FormatLayout(first))
		want := impl.FormatLayout(first)
		given := impl.Layout{Data: roomy(first.Data, -7)}
		for _, lengths := range first.Lengths {
			given.Lengths = append(given.Lengths, roomy(lengths, -7))
		}
		given.Lengths = roomy(given.Lengths, []int{-7})
		before := fmt.Sprint(whole(given))
		parts, _ := impl.InnerOf(given)
		path := roomy([]int{1, 0, 0}, -7)
		place := impl.PlaceOf(given, path)
		text, _ := impl.FoldUp(given)
		if text != s || place < 0 || impl.FormatLayout(given) != want || !impl.LayoutValid(given) || impl.WhatIsWrong(given) != -1 {
			t.Errorf("%q is taken as %q, %d", want, text, place)
		}
		results := append(whole(first), whole(second)...)
		for _, part := range parts {
			results = append(results, whole(part)...)
		}
		if !markAll(results) {
			t.Errorf("results of %q share memory", want)
		}
		if fmt.Sprint(whole(given)) != before || !slices.Equal(path[:cap(path)][:6], []int{1, 0, 0, -7, -7, -7}) {
			t.Errorf("the arguments are changed to %v and %v", whole(given), path[:cap(path)])
		}
	}
}

func TestInnerLevelsAreNewMemory(t *testing.T) {
	l, _ := impl.LayOut("[[[1],[2]],[[3],[4]],[]]", 3)
	parts, _ := impl.InnerOf(l)
	texts := []string{}
	for i, part := range parts {
		texts = append(texts, impl.FormatLayout(part))
		levels := part.Lengths[:cap(part.Lengths)]
		for level := range levels {
			levels[level] = []int{i}
		}
	}
	if !slices.Equal(texts, []string{"2|1 1|1 2", "2|1 1|3 4", "0|-|-"}) || impl.FormatLayout(l) != "3|2 2 0|1 1 1 1|1 2 3 4" {
		t.Errorf("InnerOf shares its levels: %q, %v", texts, l)
	}
}
