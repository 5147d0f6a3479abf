package tests

import (
	"math"
	"math/rand"
	"regexp"
	"slices"
	"strconv"
	"strings"
	"testing"

	"loop.example/flatarrays/impl"
)

// A tree is the tests' own picture of an array: a number if its depth is 0, parts otherwise.
type tree struct {
	depth int
	value int
	parts []tree
}

func (a tree) text() string {
	if a.depth == 0 {
		return strconv.Itoa(a.value)
	}
	return "[" + strings.Join(a.partTexts(), ",") + "]"
}

func (a tree) partTexts() []string {
	texts := []string{}
	for _, part := range a.parts {
		texts = append(texts, part.text())
	}
	return texts
}

func (a tree) numbers() []int {
	if a.depth == 0 {
		return []int{a.value}
	}
	list := []int{}
	for _, part := range a.parts {
		list = append(list, part.numbers()...)
	}
	return list
}

func randomTree(source *rand.Rand, depth int) tree {
	a := tree{depth: depth}
	if depth == 0 {
		a.value = source.Intn(impl.Modulus)
		return a
	}
	for range source.Intn(5) {
		a.parts = append(a.parts, randomTree(source, depth-1))
	}
	return a
}

// ones returns an array of the depth 1 whose text has so many bytes, from 3 on.
func ones(size int) string {
	if size%2 == 1 {
		return "[1" + strings.Repeat(",1", (size-3)/2) + "]"
	}
	return "[11" + strings.Repeat(",1", (size-4)/2) + "]"
}

// onesOf returns an array of any depth from 1 on whose text has so many bytes.
func onesOf(size int, depth int) string {
	around := depth - 1
	return strings.Repeat("[", around) + ones(size-2*around) + strings.Repeat("]", around)
}

var noDepths = []int{math.MinInt, -1, impl.MaxNested + 1, impl.MaxNested + 2, math.MaxInt}

func TestLimitsOfArrays(t *testing.T) {
	if impl.MaxText != 400 || impl.MaxNested != 3 || impl.Modulus != 10007 {
		t.Error("the limits are not those of the document")
	}
}

func TestNumbersAsArrays(t *testing.T) {
	for n := range impl.Modulus {
		s := strconv.Itoa(n)
		list, ok := impl.NumbersOf(s, 0)
		if !impl.ArrayValid(s, 0) || !ok || !slices.Equal(list, []int{n}) || impl.LeastDepth(s) != 0 {
			t.Errorf("%q is not taken as a number: %v, %v", s, list, ok)
		}
		if list, ok := impl.NumbersOf("["+s+","+s+"]", 1); !ok || !slices.Equal(list, []int{n, n}) {
			t.Errorf("%q is not taken as a part: %v, %v", s, list, ok)
		}
	}
	for _, s := range []string{
		"", "00", "01", "007", "010006", "000000", "-0", "-1", "+1", " 1", "1 ", "1\n", "\n1", "1.0", "1e3", "0x1", "1_0",
		"10007", "10008", "10010", "10100", "20000", "99999", "100000", "100060", "4294967296", "4294967297",
		"9223372036854775808", "18446744073709551616", "18446744073709551617", strings.Repeat("9", 400), strings.Repeat("0", 400),
		"a", "\x00", "1\x00", "\xff", "１", "١", "1,2", ",", "1,", ",1", "/", ":", "1/", "1:",
	} {
		for _, text := range []string{s, "[" + s + "]", "[5," + s + "]", "[[" + s + ",5]]", "[[[" + s + "]]]"} {
			if s == "" && text != s && text != "[5,]" || s == "1,2" && text != s {
				continue // These are arrays.
			}
			if depth := impl.LeastDepth(text); depth != -1 {
				t.Errorf("LeastDepth(%q) = %d", text, depth)
			}
		}
	}
}

// arrayPatterns has a regular expression for the arrays of each depth, but for the limits.
func arrayPatterns() []*regexp.Regexp {
	pattern := `(?:0|[1-9][0-9]*)`
	var list []*regexp.Regexp
	for range impl.MaxNested + 1 {
		list = append(list, regexp.MustCompile(`\A`+pattern+`\z`))
		pattern = `\[(?:` + pattern + `(?:,` + pattern + `)*)?\]`
	}
	return list
}

// hasGreat reports whether a text has a number that is too great.
func hasGreat(s string) bool {
	return slices.ContainsFunc(strings.FieldsFunc(s, func(c rune) bool { return c < '0' || c > '9' }), func(digits string) bool {
		n, _ := strconv.Atoi(digits)
		return n >= impl.Modulus
	})
}

func TestAllShortTexts(t *testing.T) {
	patterns := arrayPatterns()
	texts := []string{""}
	for at := 0; at < len(texts); at++ {
		s := texts[at]
		least := -1
		for depth, pattern := range patterns {
			want := pattern.MatchString(s) && !hasGreat(s)
			if impl.ArrayValid(s, depth) != want {
				t.Errorf("ArrayValid(%q, %d) is not %v", s, depth, want)
			}
			if want && least < 0 {
				least = depth
			}
		}
		if got := impl.LeastDepth(s); got != least {
			t.Errorf("LeastDepth(%q) = %d, not %d", s, got, least)
		}
		if len(s) < 6 {
			for _, c := range "[],019" {
				texts = append(texts, s+string(c))
			}
		}
	}
}

func TestArraysWithoutParts(t *testing.T) {
	for _, c := range []struct {
		s      string
		depths []int
	}{
		{"[]", []int{1, 2, 3}},
		{"[[]]", []int{2, 3}},
		{"[[],[]]", []int{2, 3}},
		{"[[[]]]", []int{3}},
		{"[[],[[]]]", []int{3}},
		{"[[[]],[]]", []int{3}},
		{"[[],[1]]", []int{2}},
		{"[[[1]],[],[[],[2]]]", []int{3}},
		{"[[[[]]]]", nil},
		{"[1,[]]", nil},
		{"[[],1]", nil},
		{"[[1],[[]]]", nil},
		{"[[[]],[1]]", nil},
		{"[ ]", nil},
		{"[][]", nil},
		{"[],[]", nil},
		{"[]]", nil},
		{"[[]", nil},
		{"][", nil},
		{"[,]", nil},
		{"[[],]", nil},
		{"[,[]]", nil},
		{"[[][]]", nil},
		{"[[],,[]]", nil},
		{"[]\n", nil},
		{"[]\x00", nil},
	} {
		for depth := -1; depth <= impl.MaxNested+1; depth++ {
			if want := slices.Contains(c.depths, depth); impl.ArrayValid(c.s, depth) != want {
				t.Errorf("ArrayValid(%q, %d) is not %v", c.s, depth, want)
			}
		}
		want := -1
		if len(c.depths) > 0 {
			want = c.depths[0]
		}
		if got := impl.LeastDepth(c.s); got != want {
			t.Errorf("LeastDepth(%q) = %d, not %d", c.s, got, want)
		}
	}
}

func TestDepthsThatAreNone(t *testing.T) {
	for _, depth := range noDepths {
		for _, s := range []string{"", "1", "[]", "[1]", "[[]]", "[[[]]]", "[[[[]]]]"} {
			expectNothing(t, s, depth)
		}
	}
}

// expectNothing checks that no function takes s as an array of a depth.
func expectNothing(t *testing.T, s string, depth int) {
	t.Helper()
	if impl.ArrayValid(s, depth) {
		t.Errorf("ArrayValid(%.20q, %d)", s, depth)
	}
	if list, ok := impl.NumbersOf(s, depth); len(list) != 0 || ok {
		t.Errorf("NumbersOf(%.20q, %d) = %v, %v", s, depth, list, ok)
	}
	if got, ok := impl.MakeArray([]string{s}, depth+1); got != "" || ok {
		t.Errorf("MakeArray(%.20q, %d) = %.20q, %v", s, depth+1, got, ok)
	}
	expectNoParts(t, s, depth)
}

// expectNoParts checks that no function that needs the parts of an array takes s.
func expectNoParts(t *testing.T, s string, depth int) {
	t.Helper()
	if list, ok := impl.PartsOf(s, depth); len(list) != 0 || ok {
		t.Errorf("PartsOf(%.20q, %d) = %v, %v", s, depth, list, ok)
	}
	if got := impl.LengthOf(s, depth); got != -1 {
		t.Errorf("LengthOf(%.20q, %d) = %d", s, depth, got)
	}
	if got, ok := impl.JoinArrays(s, "[]", depth); got != "" || ok {
		t.Errorf("JoinArrays(%.20q, [], %d) = %.20q, %v", s, depth, got, ok)
	}
	if got, ok := impl.JoinArrays("[]", s, depth); got != "" || ok {
		t.Errorf("JoinArrays([], %.20q, %d) = %.20q, %v", s, depth, got, ok)
	}
	if got, ok := impl.TurnArray(s, depth); got != "" || ok {
		t.Errorf("TurnArray(%.20q, %d) = %.20q, %v", s, depth, got, ok)
	}
	if got, ok := impl.FlattenOnce(s, depth); got != "" || ok {
		t.Errorf("FlattenOnce(%.20q, %d) = %.20q, %v", s, depth, got, ok)
	}
}

func TestTextsThatAreNoArrays(t *testing.T) {
	for _, s := range []string{
		"", "x", "[", "]", "[1", "1]", "[1]]", "[[1]", "[1,]", "[,1]", "[1,,2]", "[1 ,2]", "[1, 2]", "[01]", "[-1]", "[10007]",
		"[1;2]", "(1)", "{1}", "[1]x", "x[1]", "[[1],2]", "[2,[1]]", "[[1][2]]", "[[[1]],[2]]", "[[[1,2],[3]],[[4],5]]", "[\xff]",
	} {
		for depth := range impl.MaxNested + 1 {
			expectNothing(t, s, depth)
		}
	}
	for _, depth := range []int{0, 2, 3} {
		expectNothing(t, "[1,2]", depth)
	}
	expectNothing(t, "[[1,2],[]]", 1)
	expectNothing(t, "[[1,2],[]]", 3)
	for _, s := range []string{"0", "7", "10006"} {
		expectNoParts(t, s, 0)
	}
}

func TestJoinNumbersIsNothing(t *testing.T) {
	if got, ok := impl.JoinArrays("1", "2", 0); got != "" || ok {
		t.Errorf("JoinArrays = %q, %v", got, ok)
	}
}

func TestLongestTexts(t *testing.T) {
	for depth := 1; depth <= impl.MaxNested; depth++ {
		s := onesOf(impl.MaxText, depth)
		if len(s) != impl.MaxText || !impl.ArrayValid(s, depth) || impl.LeastDepth(s) != depth {
			t.Errorf("an array of %d bytes is not taken as one of the depth %d", len(s), depth)
		}
		if got, ok := impl.TurnArray(s, depth); len(got) != impl.MaxText || !ok {
			t.Errorf("TurnArray = %q, %v", got, ok)
		}
		if list, ok := impl.PartsOf(s, depth); !ok || len(list) != impl.LengthOf(s, depth) {
			t.Errorf("PartsOf = %v, %v", list, ok)
		}
		list, ok := impl.NumbersOf(s, depth)
		if count := strings.Count(s, ",") + 1; !ok || len(list) != count || list[0] != 11 || list[1] != 1 || list[count-1] != 1 {
			t.Errorf("NumbersOf = %v, %v", list, ok)
		}
		s = onesOf(impl.MaxText+1, depth)
		if len(s) != impl.MaxText+1 || impl.LeastDepth(s) != -1 {
			t.Errorf("an array of %d bytes is taken", len(s))
		}
		expectNothing(t, s, depth)
	}
}

func TestFlattenLongestTexts(t *testing.T) {
	for depth := 2; depth <= impl.MaxNested; depth++ {
		s := onesOf(impl.MaxText, depth)
		if got, ok := impl.FlattenOnce(s, depth); got != onesOf(impl.MaxText-2, depth-1) || !ok {
			t.Errorf("FlattenOnce = %q, %v", got, ok)
		}
	}
}

func TestMakeArray(t *testing.T) {
	for _, c := range []struct {
		parts []string
		depth int
		want  string
	}{
		{nil, 1, "[]"},
		{[]string{}, 2, "[]"},
		{nil, 3, "[]"},
		{[]string{"0"}, 1, "[0]"},
		{[]string{"10006", "0", "3"}, 1, "[10006,0,3]"},
		{[]string{"[]"}, 2, "[[]]"},
		{[]string{"[]", "[1,2]", "[]"}, 2, "[[],[1,2],[]]"},
		{[]string{"[]"}, 3, "[[]]"},
		{[]string{"[[]]", "[]", "[[1],[2,3]]"}, 3, "[[[]],[],[[1],[2,3]]]"},
	} {
		if got, ok := impl.MakeArray(c.parts, c.depth); got != c.want || !ok {
			t.Errorf("MakeArray(%q, %d) = %q, %v", c.parts, c.depth, got, ok)
		}
	}
}

func TestMakeArrayOfPartsThatAreNone(t *testing.T) {
	for _, c := range []struct {
		parts []string
		depth int
	}{
		{[]string{""}, 1},
		{[]string{"1", ""}, 1},
		{[]string{"", "1"}, 1},
		{[]string{"1,2"}, 1},
		{[]string{"1]"}, 1},
		{[]string{"01"}, 1},
		{[]string{"10007"}, 1},
		{[]string{"[]"}, 1},
		{[]string{"1"}, 2},
		{[]string{"1", "[]"}, 2},
		{[]string{"[]", "1"}, 2},
		{[]string{"[1", "2]"}, 2},
		{[]string{"[1],[2]"}, 2},
		{[]string{"[[]]"}, 2},
		{[]string{"[1]"}, 3},
		{[]string{"[[1]]", "[1]"}, 3},
		{[]string{"[[[]]]"}, 3},
		{[]string{"[]", "[]", "x"}, 3},
	} {
		if got, ok := impl.MakeArray(c.parts, c.depth); got != "" || ok {
			t.Errorf("MakeArray(%q, %d) = %q, %v", c.parts, c.depth, got, ok)
		}
	}
	for _, depth := range append([]int{0}, noDepths...) {
		for _, parts := range [][]string{nil, {"1"}, {"[]"}, {"[[]]"}, {"[[[]]]"}} {
			if got, ok := impl.MakeArray(parts, depth); got != "" || ok {
				t.Errorf("MakeArray(%q, %d) = %q, %v", parts, depth, got, ok)
			}
		}
	}
}

func TestMakeLongestArrays(t *testing.T) {
	fits := append(slices.Repeat([]string{"1"}, 198), "11")
	if got, ok := impl.MakeArray(fits, 1); len(got) != impl.MaxText || !impl.ArrayValid(got, 1) || !ok {
		t.Errorf("MakeArray = %q, %v", got, ok)
	}
	for _, c := range []struct {
		parts []string
		depth int
		ok    bool
	}{
		{[]string{ones(398)}, 2, true},
		{[]string{ones(399)}, 2, false},
		{[]string{ones(400)}, 2, false},
		{[]string{ones(300), ones(97)}, 2, true},
		{[]string{ones(300), ones(98)}, 2, false},
		{[]string{onesOf(300, 2), onesOf(97, 2)}, 3, true},
		{[]string{onesOf(97, 2), onesOf(301, 2)}, 3, false},
		{append(fits, "1"), 1, false},
		{slices.Repeat([]string{"1"}, 200), 1, false},
		{slices.Repeat([]string{"10006"}, 66), 1, true},
		{slices.Repeat([]string{"10006"}, 67), 1, false},
		{slices.Repeat([]string{"[]"}, 133), 2, true},
		{slices.Repeat([]string{"[]"}, 134), 2, false},
		{slices.Repeat([]string{"1"}, 100000), 1, false},
	} {
		got, ok := impl.MakeArray(c.parts, c.depth)
		if ok != c.ok || !ok && got != "" {
			t.Errorf("MakeArray of %d parts = %q, %v", len(c.parts), got, ok)
		}
		if ok && got != "["+strings.Join(c.parts, ",")+"]" {
			t.Errorf("MakeArray of %d parts = %q", len(c.parts), got)
		}
	}
}

func TestJoinArrays(t *testing.T) {
	for _, c := range []struct {
		a, b  string
		depth int
		want  string
	}{
		{"[]", "[]", 1, "[]"},
		{"[]", "[]", 3, "[]"},
		{"[1]", "[]", 1, "[1]"},
		{"[]", "[1]", 1, "[1]"},
		{"[1,2]", "[3,4]", 1, "[1,2,3,4]"},
		{"[[1,2],[]]", "[[],[3]]", 2, "[[1,2],[],[],[3]]"},
		{"[[]]", "[[]]", 3, "[[],[]]"},
		{"[[[1]]]", "[[],[[2],[]]]", 3, "[[[1]],[],[[2],[]]]"},
	} {
		if got, ok := impl.JoinArrays(c.a, c.b, c.depth); got != c.want || !ok {
			t.Errorf("JoinArrays(%q, %q, %d) = %q, %v", c.a, c.b, c.depth, got, ok)
		}
	}
	for _, c := range []struct {
		a, b  string
		depth int
	}{{"[1]", "2", 1}, {"1", "[2]", 1}, {"[1]", "[[2]]", 2}, {"[[1]]", "[2]", 2}, {"[1]", "[2", 1}, {"[1", "2]", 1}, {"", "", 1}, {"[[]]", "[[[[]]]]", 3}} {
		if got, ok := impl.JoinArrays(c.a, c.b, c.depth); got != "" || ok {
			t.Errorf("JoinArrays(%q, %q, %d) = %q, %v", c.a, c.b, c.depth, got, ok)
		}
	}
}

func TestJoinLongestArrays(t *testing.T) {
	// Of two texts, two brackets go and a comma comes.
	for depth := 1; depth <= impl.MaxNested; depth++ {
		for _, size := range []int{100, 200, 201, 301} {
			a := onesOf(size, depth)
			b := onesOf(impl.MaxText+1-size, depth)
			want := strings.TrimSuffix(a, "]") + "," + strings.TrimPrefix(b, "[")
			if got, ok := impl.JoinArrays(a, b, depth); len(got) != impl.MaxText || got != want || !ok {
				t.Errorf("JoinArrays = %q, %v", got, ok)
			}
			b = onesOf(impl.MaxText+2-size, depth)
			if got, ok := impl.JoinArrays(a, b, depth); got != "" || ok {
				t.Errorf("JoinArrays = %q, %v", got, ok)
			}
		}
		s := onesOf(impl.MaxText, depth)
		if got, ok := impl.JoinArrays(s, "[]", depth); got != s || !ok {
			t.Errorf("JoinArrays = %q, %v", got, ok)
		}
		if got, ok := impl.JoinArrays(s, s, depth); got != "" || ok {
			t.Errorf("JoinArrays = %q, %v", got, ok)
		}
	}
}

func TestTurnArray(t *testing.T) {
	for _, c := range []struct {
		s     string
		depth int
		want  string
	}{
		{"[]", 1, "[]"},
		{"[]", 3, "[]"},
		{"[1]", 1, "[1]"},
		{"[1,2]", 1, "[2,1]"},
		{"[1,20,300]", 1, "[300,20,1]"},
		{"[[1,2],[3,4],[]]", 2, "[[],[3,4],[1,2]]"},
		{"[[[1,2],[3]],[[4],[5]]]", 3, "[[[4],[5]],[[1,2],[3]]]"},
	} {
		if got, ok := impl.TurnArray(c.s, c.depth); got != c.want || !ok {
			t.Errorf("TurnArray(%q, %d) = %q, %v", c.s, c.depth, got, ok)
		}
	}
}

func TestFlattenOnce(t *testing.T) {
	for _, c := range []struct {
		s     string
		depth int
		want  string
	}{
		{"[]", 2, "[]"},
		{"[]", 3, "[]"},
		{"[[]]", 2, "[]"},
		{"[[],[]]", 3, "[]"},
		{"[[[]]]", 3, "[[]]"},
		{"[[3,1],[],[2]]", 2, "[3,1,2]"},
		{"[[[1,2],[]],[],[[3],[4]]]", 3, "[[1,2],[],[3],[4]]"},
	} {
		if got, ok := impl.FlattenOnce(c.s, c.depth); got != c.want || !ok {
			t.Errorf("FlattenOnce(%q, %d) = %q, %v", c.s, c.depth, got, ok)
		}
	}
	for _, s := range []string{"[]", "[1]", "[1,2]"} {
		if got, ok := impl.FlattenOnce(s, 1); got != "" || ok {
			t.Errorf("FlattenOnce(%q, 1) = %q, %v", s, got, ok)
		}
	}
	if got, ok := impl.FlattenOnce("5", 0); got != "" || ok {
		t.Errorf("FlattenOnce(5, 0) = %q, %v", got, ok)
	}
}

func TestArraysAreMadeOfPartsAndHaveNumbersInOrder(t *testing.T) {
	source := rand.New(rand.NewSource(1))
	for range 3000 {
		a := randomTree(source, 1+source.Intn(impl.MaxNested))
		b := randomTree(source, a.depth)
		checkArray(t, a)
		checkText(t, "JoinArrays", tree{depth: a.depth, parts: slices.Concat(a.parts, b.parts)}, func() (string, bool) {
			return impl.JoinArrays(a.text(), b.text(), a.depth)
		}, len(a.text()) <= impl.MaxText && len(b.text()) <= impl.MaxText)
	}
}

func checkArray(t *testing.T, a tree) {
	t.Helper()
	s := a.text()
	fits := len(s) <= impl.MaxText
	if impl.ArrayValid(s, a.depth) != fits {
		t.Errorf("ArrayValid(%q, %d) is not %v", s, a.depth, fits)
	}
	checkText(t, "MakeArray", a, func() (string, bool) { return impl.MakeArray(a.partTexts(), a.depth) }, true)
	if !fits {
		expectNothing(t, s, a.depth)
		return
	}
	if list, ok := impl.PartsOf(s, a.depth); !slices.Equal(list, a.partTexts()) || !ok {
		t.Errorf("PartsOf(%q, %d) = %q, %v", s, a.depth, list, ok)
	}
	if list, ok := impl.NumbersOf(s, a.depth); !slices.Equal(list, a.numbers()) || !ok {
		t.Errorf("NumbersOf(%q, %d) = %v, %v", s, a.depth, list, ok)
	}
	if got := impl.LengthOf(s, a.depth); got != len(a.parts) {
		t.Errorf("LengthOf(%q, %d) = %d", s, a.depth, got)
	}
	turned := tree{depth: a.depth, parts: slices.Clone(a.parts)}
	slices.Reverse(turned.parts)
	checkText(t, "TurnArray", turned, func() (string, bool) { return impl.TurnArray(s, a.depth) }, true)
	flat := tree{depth: a.depth - 1}
	for _, part := range a.parts {
		flat.parts = append(flat.parts, part.parts...)
	}
	if a.depth > 1 {
		checkText(t, "FlattenOnce", flat, func() (string, bool) { return impl.FlattenOnce(s, a.depth) }, true)
	}
}

// checkText checks that a call returns the text of want, or nothing if this is too long or an argument is.
func checkText(t *testing.T, name string, want tree, call func() (string, bool), valid bool) {
	t.Helper()
	text := want.text()
	if !valid || len(text) > impl.MaxText {
		text = ""
	}
	if got, ok := call(); got != text || ok != (text != "") {
		t.Errorf("%s = %q, %v, not %q", name, got, ok, text)
	}
}

func TestResultsAreNewMemory(t *testing.T) {
	s := "[[1,2],[],[3]]"
	parts, _ := impl.PartsOf(s, 2)
	numbers, _ := impl.NumbersOf(s, 2)
	clear(parts[:cap(parts)])
	clear(numbers[:cap(numbers)])
	if list, ok := impl.PartsOf(s, 2); !slices.Equal(list, []string{"[1,2]", "[]", "[3]"}) || !ok {
		t.Errorf("PartsOf = %q, %v", list, ok)
	}
	if list, ok := impl.NumbersOf(s, 2); !slices.Equal(list, []int{1, 2, 3}) || !ok {
		t.Errorf("NumbersOf = %v, %v", list, ok)
	}
}

func TestMakeArrayLeavesItsParts(t *testing.T) {
	kept := []string{"2", "1", "behind"}
	if got, ok := impl.MakeArray(kept[:2], 1); got != "[2,1]" || !ok {
		t.Errorf("MakeArray = %q, %v", got, ok)
	}
	if !slices.Equal(kept, []string{"2", "1", "behind"}) {
		t.Errorf("MakeArray changed its parts to %q", kept)
	}
}
