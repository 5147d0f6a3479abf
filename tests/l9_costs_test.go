package tests

import (
	"fmt"
	"math"
	"math/rand"
	"slices"
	"strings"
	"testing"

	"loop.example/flatarrays/impl"
)

// spread returns how many numbers are copied where the loops of a term begin that is evaluated once for each of some tables of variables.
func (p picture) spread(tables []map[string]tree) int {
	copied := 0
	for i, part := range p.parts {
		inner := tables
		if i == 1 && p.bound != "" {
			inner = p.innerTables(tables)
			copied += p.spreadHere(tables)
		}
		copied += part.spread(inner)
	}
	return copied
}

// spreadHere returns how many numbers are copied where a loop begins.
func (p picture) spreadHere(tables []map[string]tree) int {
	copied := 0
	for _, vars := range tables {
		over, _ := p.parts[0].given(new(counter), vars)
		for _, name := range strings.Split(p.parts[1].variables(), "") {
			if array, stands := vars[name]; stands && name != p.bound {
				copied += len(over.parts) * len(array.numbers())
			}
		}
	}
	return copied
}

// A costed is what a term costs; it has no works where they are not to be compared.
type costed struct {
	steps, spread, widest int
	byLevel, works        []int
}

// costs returns what a term costs that gives something of two arrays, be its text too long or not.
func (p picture) costs(a, b tree) costed {
	tables := []map[string]tree{{"a": a, "b": b}}
	widths := p.widths(tables)
	c := costed{len(widths), p.spread(tables), slices.Max(append(widths, 1)), make([]int, p.levels()+1), worksOf(p.instructions(), widths)}
	for at, level := range p.levelsAt(0) {
		c.byLevel[level] += c.works[at]
	}
	return c
}

// time returns how long instructions take with so many hands.
func (c costed) time(hands int) int {
	time := 0
	for _, work := range c.works {
		time += work/hands + oneFor(work%hands > 0)
	}
	return time
}

// handsFor returns the fewest hands with which instructions take no longer than so long.
func (c costed) handsFor(time int) int {
	for hands := 1; hands <= 1000; hands++ {
		if c.time(hands) <= time {
			return hands
		}
	}
	return -1
}

// noHands are numbers of hands that there may not be.
var noHands = []int{0, -1, -2, -1000, 1001, 1002, 2000, math.MinInt, math.MaxInt}

func expectTime(t *testing.T, s, a, b string, hands, want int) {
	t.Helper()
	if got := impl.TimeOf(s, a, b, hands); got != want {
		t.Errorf("TimeOf(%q, %.99q, %.99q, %d) = %d, not %d", s, a, b, hands, got, want)
	}
}

func expectHands(t *testing.T, s, a, b string, time, want int) {
	t.Helper()
	if got := impl.HandsFor(s, a, b, time); got != want {
		t.Errorf("HandsFor(%q, %.99q, %.99q, %d) = %d, not %d", s, a, b, time, got, want)
	}
}

// expectCounts checks all that is counted of one term without hands.
func expectCounts(t *testing.T, s, a, b string, want costed) {
	t.Helper()
	if steps := impl.FlatSteps(s); steps != want.steps {
		t.Errorf("FlatSteps(%q) = %d, not %d", s, steps, want.steps)
	}
	if spread := impl.SpreadOf(s, a, b); spread != want.spread {
		t.Errorf("SpreadOf(%q, %.99q, %.99q) = %d, not %d", s, a, b, spread, want.spread)
	}
	if widest := impl.WidestOf(s, a, b); widest != want.widest {
		t.Errorf("WidestOf(%q, %.99q, %.99q) = %d, not %d", s, a, b, widest, want.widest)
	}
	list, ok := impl.WorkByLevel(s, a, b)
	expectList(t, "WorkByLevel "+s, list, ok, want.byLevel)
	expectTime(t, s, a, b, 1, sum(want.byLevel))
	if work := impl.WorkOf(s, a, b); work != sum(list) {
		t.Errorf("WorkOf(%q, %.99q, %.99q) = %d, not %v", s, a, b, work, list)
	}
}

// expectCosts checks what a term costs, or that it has no costs.
func expectCosts(t *testing.T, p picture, a, b tree) {
	t.Helper()
	ran, ok := p.run(a, b)
	if !ok {
		return
	}
	s, first, second := p.text(), a.text(), b.text()
	if ran.work < 0 {
		expectNoCosts(t, s, first, second)
		return
	}
	want := p.costs(a, b)
	expectCounts(t, s, first, second, want)
	for _, hands := range []int{1, 2, 3, 4, want.widest - 1, want.widest, want.widest + 1, 1000} {
		if hands < 1 || hands > 1000 {
			continue
		}
		time := want.time(hands)
		expectTime(t, s, first, second, hands, time)
		expectHands(t, s, first, second, time, want.handsFor(time))
	}
	least := want.time(1000)
	expectHands(t, s, first, second, least-1, -1)
	expectHands(t, s, first, second, least+1, want.handsFor(least+1))
	for _, hands := range noHands {
		expectTime(t, s, first, second, hands, -1)
	}
}

// expectNoCosts checks that no function but FlatSteps has a result for a term and two arrays.
func expectNoCosts(t *testing.T, s, a, b string) {
	t.Helper()
	if spread, widest := impl.SpreadOf(s, a, b), impl.WidestOf(s, a, b); spread != -1 || widest != -1 {
		t.Errorf("SpreadOf(%.99q, %.99q, %.99q) = %d, WidestOf = %d", s, a, b, spread, widest)
	}
	list, ok := impl.WorkByLevel(s, a, b)
	expectNoList(t, "WorkByLevel "+s, list, ok)
	for _, hands := range append([]int{1, 2, 1000}, noHands...) {
		expectTime(t, s, a, b, hands, -1)
	}
	for _, time := range []int{math.MinInt, -2, -1, 0, 1, 1000, math.MaxInt} {
		expectHands(t, s, a, b, time, -1)
	}
	for _, other := range []string{s, "0", "a", "b"} {
		if impl.IsCheaper(s, other, a, b) || impl.IsCheaper(other, s, a, b) {
			t.Errorf("IsCheaper of %.99q and %q, %.99q, %.99q", s, other, a, b)
		}
	}
}

func TestLimitOfHands(t *testing.T) {
	if impl.MaxHands != 1000 {
		t.Errorf("MaxHands is %d", impl.MaxHands)
	}
}

func TestFlatSteps(t *testing.T) {
	for s, want := range map[string]int{
		"0": 1, "9": 1, "a": 1, "b": 1, "v": 1, "x": 1, "z": 1,
		"Sa": 2, "Mx": 2, "I3": 2, "Nb": 2, "Rb": 2, "Cb": 2, "Pa": 2, "SRCb": 4,
		"(1+2)": 3, "(1*2)": 3, "(1^2)": 3, "(1-2)": 3, "(1=2)": 3, "(1<2)": 3, "(a@2)": 3, "((1+2)*3)": 5, "(Sa+I(1-2))": 7,
		"[x:b>Sx]": 5, "{x:b>Sx}": 5, "[v:a>1]": 4, "{z:a>z}": 4,
		"[x:b>[y:x>y]]": 7, "{x:b>N{y:x>y}}": 8, "[x:[y:b>Sy]>x]": 8, "[x:{y:b>Ny}>[z:x>(z+1)]]": 13,
		"(S[x:b>Sx]+S[x:a>x])": 12,
		// Steps need no depth, and no arrays.
		"SS1": 3, "[x:1>x]": 4, "(a+b)": 3, "[x:y>(z@z)]": 6,
		"": -1, " ": -1, "q": -1, "c": -1, "aa": -1, "S": -1, "Sab": -1, "a+b": -1, "(a+b": -1, "(a b)": -1, "[x:b>Sx": -1, "[x:b>Sx}": -1, "[a:b>1]": -1, "[x b>1]": -1,
		"b [x x S ]": -1, "a S": -1, "-1": -1, "10": -1, "\x00": -1, "\xff": -1, " a": -1, "a ": -1,
	} {
		if got := impl.FlatSteps(s); got != want {
			t.Errorf("FlatSteps(%q) = %d, not %d", s, got, want)
		}
	}
}

func TestFlatStepsToTheLimit(t *testing.T) {
	for size := 76; size <= 84; size++ {
		list := longTerms(size)
		if len(list) == 0 {
			t.Errorf("there are no terms of %d bytes", size)
		}
		for _, p := range list {
			want := len(p.instructions())
			if size > 80 {
				want = -1
			}
			if got := impl.FlatSteps(p.text()); got != want {
				t.Errorf("FlatSteps(%q) = %d, not %d", p.text(), got, want)
			}
		}
	}
	if got := impl.FlatSteps(strings.Repeat("R", 100000) + "a"); got != -1 {
		t.Errorf("FlatSteps of a very long text = %d", got)
	}
}

// A worked is a term and what it costs, found by hand.
type worked struct {
	s                     string
	steps, spread, widest int
	byLevel               []int
}

func expectWorked(t *testing.T, a, b string, list []worked) {
	t.Helper()
	for _, c := range list {
		expectCounts(t, c.s, a, b, costed{c.steps, c.spread, c.widest, c.byLevel, nil})
	}
}

func TestCostsWithoutLoops(t *testing.T) {
	expectWorked(t, "[1,2]", "[[1,2],[],[3]]", []worked{
		{"7", 1, 0, 1, []int{1}},
		{"a", 1, 0, 1, []int{1}},
		{"b", 1, 0, 1, []int{1}},
		{"Sa", 2, 0, 1, []int{2}},
		{"SRCb", 4, 0, 1, []int{4}},
		{"I9", 2, 0, 1, []int{2}},
		{"(a@1)", 3, 0, 1, []int{3}},
		{"((Sa+Nb)*(a@1))", 9, 0, 1, []int{9}},
	})
}

func TestCostsOfLoops(t *testing.T) {
	expectWorked(t, "[1,2]", "[[1,2],[],[3]]", []worked{
		{"[x:b>Sx]", 5, 0, 3, []int{2, 6}},
		{"{x:b>Sx}", 5, 0, 3, []int{2, 6}},
		{"[x:b>1]", 4, 0, 3, []int{2, 3}},
		{"[x:b>a]", 4, 6, 3, []int{2, 3}},
		{"[x:b>b]", 4, 9, 3, []int{2, 3}},
		{"[x:Rb>(Na+Na)]", 9, 6, 3, []int{3, 15}},
		{"[x:a>(a@x)]", 6, 4, 2, []int{2, 6}},
		{"{x:a>((a@x)+Nb)}", 9, 10, 2, []int{2, 12}},
		{"[x:[y:b>Sy]>(x+Na)]", 11, 6, 3, []int{3, 18}},
		{"(S[x:b>Sx]+S[x:a>x])", 12, 0, 3, []int{7, 8}},
		{"(S[x:a>x]+N[y:b>a])", 11, 6, 3, []int{7, 5}},
	})
}

func TestCostsOfLoopsWithinLoops(t *testing.T) {
	expectWorked(t, "[1,2]", "[[1,2],[],[3]]", []worked{
		{"[x:b>[y:x>y]]", 7, 0, 3, []int{2, 6, 3}},
		{"[x:a>[y:a>x]]", 7, 8, 4, []int{2, 4, 4}},
		{"[x:a>[y:a>(x+y)]]", 9, 8, 4, []int{2, 4, 12}},
		{"[x:b>[y:x>(y+Nx)]]", 10, 5, 3, []int{2, 6, 12}},
		{"{x:b>N{y:x>(y=1)}}", 10, 0, 3, []int{2, 9, 9}},
		{"[x:a>{y:b>(Ny<x)}]", 10, 12, 6, []int{2, 4, 24}},
		// A variable that stands for arrays with two levels: 3 numbers for each of two parts, twice.
		{"[z:[x:a>b]>[y:a>Nz]]", 11, 22, 4, []int{3, 6, 8}},
		{"[x:a>[y:a>[z:a>((x+y)+z)]]]", 14, 32, 8, []int{2, 4, 8, 40}},
	})
}

func TestCostsOfVariablesBoundTwice(t *testing.T) {
	expectWorked(t, "[1,2]", "[[1,2],[],[3]]", []worked{
		{"[x:b>[x:x>x]]", 7, 0, 3, []int{2, 6, 3}},
		{"[x:b>[x:a>x]]", 7, 6, 6, []int{2, 6, 6}},
		// Behind its loop x stands again for a list, which is copied where the loop of y begins.
		{"[x:b>[y:[x:a>x]>(y+Nx)]]", 13, 12, 6, []int{2, 9, 30}},
		// Where the loop of x begins, y stands for a number, although what is read is another y.
		{"[y:a>[x:a>[y:b>Ny]]]", 11, 26, 12, []int{2, 4, 8, 24}},
		// There, y stands for nothing yet.
		{"[x:a>[y:b>Ny]]", 8, 6, 6, []int{2, 4, 12}},
		{"(N[y:a>y]+N[x:a>[y:b>Ny]])", 15, 6, 6, []int{7, 6, 12}},
		{"[y:a>y]", 4, 0, 2, []int{2, 2}},
		{"[x:b>[x:Rx>[x:Rb>Nx]]]", 13, 18, 9, []int{2, 9, 9, 18}},
	})
}

func TestCostsOfLoopsOverNothing(t *testing.T) {
	expectWorked(t, "[]", "[[],[]]", []worked{
		{"[x:a>x]", 4, 0, 1, []int{2, 0}},
		{"{x:a>(x+Nb)}", 7, 0, 1, []int{2, 0}},
		{"[x:b>a]", 4, 0, 2, []int{2, 2}},
		{"[x:b>[y:x>(y+1)]]", 9, 0, 2, []int{2, 4, 0}},
		{"[x:a>[y:b>[z:y>z]]]", 10, 0, 1, []int{2, 0, 0, 0}},
		{"[x:a>[y:a>[z:a>(x+y)]]]", 12, 0, 1, []int{2, 0, 0, 0}},
		{"[x:{y:b>0}>[z:x>z]]", 10, 0, 2, []int{3, 2, 0}},
	})
	expectWorked(t, "[7]", "[[],[]]", []worked{
		{"[x:a>[y:b>[z:y>(x+z)]]]", 12, 2, 2, []int{2, 2, 4, 0}},
		{"{x:b>N[y:x>a]}", 8, 2, 2, []int{2, 6, 0}},
		{"[x:b>[y:x>[z:a>(y+z)]]]", 12, 2, 2, []int{2, 4, 0, 0}},
		{"[x:{y:a>0}>[z:b>(x+Na)]]", 13, 0, 1, []int{3, 1, 0}},
	})
	expectWorked(t, "[7]", "[]", []worked{
		{"[x:a>[y:b>[z:a>(x+z)]]]", 12, 1, 1, []int{2, 2, 0, 0}},
		{"[x:b>[y:a>[z:a>y]]]", 10, 0, 1, []int{2, 0, 0, 0}},
	})
}

func TestTimeAndHands(t *testing.T) {
	s, a, b := "[x:b>Sx]", "[1,2]", "[[1,2],[],[3]]"
	for hands, want := range map[int]int{1: 8, 2: 6, 3: 4, 4: 4, 999: 4, 1000: 4} {
		expectTime(t, s, a, b, hands, want)
	}
	for time, want := range map[int]int{math.MaxInt: 1, 9: 1, 8: 1, 7: 2, 6: 2, 5: 3, 4: 3, 3: -1, 1: -1, 0: -1, -1: -1, math.MinInt: -1} {
		expectHands(t, s, a, b, time, want)
	}
	// The works are 1, 1, 5, 5, 25, 25 and 125.
	s, a = "[x:a>[y:a>[z:a>1]]]", "[1,2,3,4,5]"
	for hands, want := range map[int]int{1: 187, 2: 97, 4: 52, 5: 39, 6: 35, 24: 14, 25: 11, 62: 9, 63: 8, 124: 8, 125: 7, 126: 7, 1000: 7} {
		expectTime(t, s, a, b, hands, want)
	}
	for time, want := range map[int]int{188: 1, 187: 1, 186: 2, 97: 2, 52: 4, 51: 5, 39: 5, 38: 6, 14: 21, 13: 25, 11: 25, 9: 42, 8: 63, 7: 125, 6: -1} {
		expectHands(t, s, a, b, time, want)
	}
	for _, c := range []string{"7", "a", "Sa", "(1+2)", "SRCb"} {
		work := impl.WorkOf(c, a, b)
		for _, hands := range []int{1, 2, 3, 1000} {
			expectTime(t, c, a, b, hands, work)
		}
		for time := -2; time < work; time++ {
			expectHands(t, c, a, b, time, -1)
		}
		expectHands(t, c, a, b, work, 1)
	}
}

func TestHandsThatThereMayNotBe(t *testing.T) {
	for _, s := range []string{"7", "a", "[x:a>x]", "[x:b>Sx]", "x", ""} {
		for _, hands := range noHands {
			expectTime(t, s, "[1,2]", "[[1,2],[],[3]]", hands, -1)
			expectTime(t, s, "[]", "[]", hands, -1)
		}
	}
}

// A loop over as many parts as there may be hands needs all of them to take one step.
func TestHandsToTheLimit(t *testing.T) {
	s, a := "[x:C[y:b>a]>1]", func(count int) tree { return zeros(count) }
	for _, c := range []struct {
		numbers, lists           int
		fewer, most, hands, for6 int
	}{
		{99, 10, 6, 6, 990, 990},
		{111, 9, 6, 6, 999, 999},
		{100, 10, 7, 6, 1000, 1000},
		{91, 11, 7, 7, 501, -1},
		{143, 7, 7, 7, 501, -1},
		{198, 10, 7, 7, 990, -1},
	} {
		first, second := a(c.numbers).text(), repeated(numbersTree(), c.lists).text()
		expectTime(t, s, first, second, 999, c.fewer)
		expectTime(t, s, first, second, 1000, c.most)
		expectTime(t, s, first, second, 1001, -1)
		expectHands(t, s, first, second, c.most, c.hands)
		expectHands(t, s, first, second, 6, c.for6)
		expectHands(t, s, first, second, 5, -1)
		expectCosts(t, pictureOf(s), a(c.numbers), repeated(numbersTree(), c.lists))
	}
}

// expectShares checks that more hands take no longer, and no less than their share of the work, for all hands.
func expectShares(t *testing.T, s, a, b string) {
	t.Helper()
	work := impl.WorkOf(s, a, b)
	if work < 1 {
		t.Errorf("WorkOf(%q, %.99q, %.99q) = %d", s, a, b, work)
		return
	}
	before := work
	for hands := 1; hands <= 1000; hands++ {
		time := impl.TimeOf(s, a, b, hands)
		if time > before || time*hands < work || time < 1 {
			t.Errorf("TimeOf(%q, %.99q, %.99q, %d) = %d, behind %d, for the work %d", s, a, b, hands, time, before, work)
		}
		if hands == 1 && time != work {
			t.Errorf("TimeOf(%q, %.99q, %.99q, 1) = %d, not %d", s, a, b, time, work)
		}
		if time < before {
			expectHands(t, s, a, b, time, hands)
			expectHands(t, s, a, b, before-1, hands)
		}
		before = time
	}
	expectHands(t, s, a, b, before-1, -1)
	expectHands(t, s, a, b, work, 1)
}

func TestMoreHandsTakeNoLongerAndNoLessThanTheirShare(t *testing.T) {
	a, b := "[3,1,2,0,5]", "[[1,2],[],[3],[4,5,6]]"
	for _, s := range []string{"7", "SRCb", "[x:b>Sx]", "{x:b>Sx}", "[x:b>[y:x>(y+Nx)]]", "[x:a>[y:a>[z:a>(x+y)]]]", "{x:a>M{y:I(x*5)>(y=x)}}", "[x:b>[y:[x:a>x]>(y+Nx)]]", "[x:C[y:b>C[z:b>a]]>(x+1)]", "[x:{y:b>0}>[z:x>z]]"} {
		expectShares(t, s, a, b)
	}
	for _, c := range []struct{ numbers, lists int }{{199, 5}, {198, 10}, {1, 133}, {59, 33}} {
		first, second := zeros(c.numbers).text(), repeated(numbersTree(), c.lists).text()
		expectShares(t, "[x:C[y:b>a]>1]", first, second)
	}
	source := rand.New(rand.NewSource(91))
	for range 60 {
		p := randomOfDepth(source, scope{"a": 1, "b": 2}, source.Intn(4), 30)
		a, b := fewNumbers(source), fewLists(source)
		if want, ok := p.run(a, b); ok && want.work > 0 {
			expectShares(t, p.text(), a.text(), b.text())
		}
	}
}

func TestIsCheaper(t *testing.T) {
	a, b := ones(199), "["+strings.Repeat("[],", 130)+"[]]"
	for _, c := range []struct {
		t, u, a, b string
		cheaper    bool
	}{
		{"Sa", "SRa", "[1,2]", "[]", true},
		{"SRa", "Sa", "[1,2]", "[]", false},
		{"Sa", "Sa", "[1,2]", "[]", false},
		// The same work.
		{"SRa", "SPRa", "[0,0]", "[]", true},
		{"SRa", "SPa", "[0,0]", "[]", false},
		{"SPa", "SRa", "[0,0]", "[]", false},
		{"(1+2)", "(2+1)", "[]", "[]", false},
		{"[x:a>x]", "[y:a>y]", "[5,6]", "[]", false},
		// Different things.
		{"Sa", "SRRb", "[1,2]", "[[1],[2]]", false},
		{"a", "RRRa", "[1,2]", "[]", false},
		{"a", "RRRa", "[1,1]", "[]", true},
		{"Na", "Sa", "[1,2]", "[]", false},
		{"7", "(3+5)", "[]", "[]", false},
		{"8", "(3+5)", "[]", "[]", true},
		{"(3+5)", "8", "[]", "[]", false},
		// The same text, but another depth.
		{"a", "Rb", "[]", "[]", false},
		{"a", "RI0", "[]", "[]", true},
		{"b", "[x:b>a]", "[]", "[]", true},
		{"b", "{x:b>a}", "[]", "[]", false},
		// Less work with more signs, and more of it with fewer.
		{"RRRRa", "[x:a>x]", "[1,2,3]", "[]", false},
		{"RRRRa", "[x:a>x]", "[1,2,3,4]", "[]", true},
		{"RRRRa", "[x:a>x]", "[]", "[]", false},
		{"[x:a>x]", "RRRRa", "[]", "[]", true},
		{"{x:a>1}", "[x:a>(x+0)]", "[5]", "[]", true},
		// The same with a reason.
		{"[x:b>a]", "RR[x:b>a]", a, b, false},
		{"[x:b>a]", "[x:b>RRa]", a, b, false},
		{"NC[x:b>a]", "NRC[x:b>a]", a, b, true},
		{"[x:C[x:b>a]>1]", "[x:C[x:b>a]>(1+0)]", a, b, false},
		{"b", "[x:b>a]", a, b, false},
		{"[x:b>a]", "b", a, b, false},
		{"0", "N[x:C[x:b>a]>1]", a, b, false},
		{"N[x:C[x:b>a]>1]", "0", a, b, false},
		{"x", "Rx", "[1]", "[]", false},
		{"x", "RRa", "[1]", "[]", false},
		{"a", "RRx", "[1]", "[]", false},
		{"a", "RRa ", "[1]", "[]", false},
		{"", "a", "[1]", "[]", false},
		{"a", "", "[1]", "[]", false},
		{"", "", "[1]", "[]", false},
		{"a", "RRa", "[1", "[]", false},
		{"a", "RRa", "[1]", "", false},
		{"a", "RRa", "[[1]]", "[1]", false},
	} {
		if got := impl.IsCheaper(c.t, c.u, c.a, c.b); got != c.cheaper {
			t.Errorf("IsCheaper(%q, %q, %.20q, %.20q) = %v", c.t, c.u, c.a, c.b, got)
		}
	}
}

// expectCheaper checks whether a term is cheaper than another one, and the other way round.
func expectCheaper(t *testing.T, p, q picture, a, b tree, first, second ran) {
	t.Helper()
	same := givesSame(p, q, first, second)
	if got := impl.IsCheaper(p.text(), q.text(), a.text(), b.text()); got != (same && first.work < second.work) {
		t.Errorf("IsCheaper(%q, %q, %q, %q) = %v", p.text(), q.text(), a.text(), b.text(), got)
	}
	if got := impl.IsCheaper(q.text(), p.text(), a.text(), b.text()); got != (same && second.work < first.work) {
		t.Errorf("IsCheaper(%q, %q, %q, %q) = %v", q.text(), p.text(), a.text(), b.text(), got)
	}
}

// With the reason 'long' all functions but IsCheaper still answer.
func TestCostsOfTextsThatAreTooLong(t *testing.T) {
	a, b := ones(199), "["+strings.Repeat("[],", 130)+"[]]"
	if text, why := impl.RunTerm("[x:b>a]", a, b); text != "" || why != "long" {
		t.Errorf("RunTerm = %.99q, %q", text, why)
	}
	expectWorked(t, a, b, []worked{
		{"[x:b>a]", 4, 131 * 99, 131, []int{2, 131}},
		{"C[x:b>Ra]", 6, 131 * 99, 131, []int{3, 262}},
		{"[x:a>a]", 4, 99 * 99, 99, []int{2, 99}},
		{"[x:a>[y:I9>a]]", 8, 99*99 + 99*9*99, 891, []int{2, 297, 891}},
	})
	expectTime(t, "[x:b>a]", a, b, 1, 133)
	expectTime(t, "[x:b>a]", a, b, 130, 4)
	expectTime(t, "[x:b>a]", a, b, 1000, 3)
	expectHands(t, "[x:b>a]", a, b, 3, 131)
	if impl.IsCheaper("[x:b>a]", "RR[x:b>a]", a, b) {
		t.Error("IsCheaper of texts that are too long")
	}
}

func TestCostsOfTooMuchWork(t *testing.T) {
	a, b := ones(199), "["+strings.Repeat("[],", 130)+"[]]"
	for _, s := range []string{"[x:b>C[y:b>a]]", "[x:C[y:b>a]>1]", "{x:C[y:b>a]>1}", "[x:a>[y:a>[z:a>9]]]", "[v:a>[w:a>S[x:a>S[y:a>S[z:a>1]]]]]"} {
		if impl.FlatSteps(s) != len(pictureOf(s).instructions()) {
			t.Errorf("FlatSteps(%q) = %d", s, impl.FlatSteps(s))
		}
		expectNoCosts(t, s, a, b)
	}
	for work := 1998; work <= 2003; work++ {
		// 43 times 43, twice 43 for the loop within, and 2 for the one around, and one for each sign ahead.
		s := strings.Repeat("R", work-1937) + "[x:a>[y:a>1]]"
		p, a, b := pictureOf(s), zeros(43), listsTree()
		expectCosts(t, p, a, b)
		if got := impl.TimeOf(s, a.text(), b.text(), 1); got != work && work <= 2000 || got != -1 && work > 2000 {
			t.Errorf("TimeOf(%q) = %d, not %d", s, got, work)
		}
	}
}

func TestCostsOfNoTermsOrArrays(t *testing.T) {
	for _, s := range []string{"", " ", "q", "aa", "S", "Sab", "(a+b", "[x:b>Sx", "[a:b>1]", "b [x x S ]", "\x00", "\xff", "x", "Nx", "Sb", "Ia", "[x:1>x]", "[x:a>Sx]", "{x:a>a}", "[x:a>[y:a>b]]", "(1@1)", "(a+1)", "C1", "Ca", "Pb", "M1", strings.Repeat("R", 80) + "a", strings.Repeat("R", 100000) + "a"} {
		expectNoCosts(t, s, "[]", "[]")
		expectNoCosts(t, s, "[1,2]", "[[1,2],[],[3]]")
	}
	for _, s := range []string{"", " ", "1", "x", "[", "[1", "[1,]", "[ ]", "[] ", "[01]", "[10007]", "[-1]", "[1,[1]]", "[[[1]]]", "\x00", "[\xff]", ones(401), onesOf(401, 2), strings.Repeat("[", 100000)} {
		for _, term := range []string{"1", "a", "b", "[x:b>Sx]", "{x:a>x}"} {
			expectNoCosts(t, term, s, "[]")
			expectNoCosts(t, term, s, "[[1]]")
			expectNoCosts(t, term, "[]", s)
			expectNoCosts(t, term, "[1]", s)
			expectNoCosts(t, term, s, s)
		}
	}
	expectNoCosts(t, "1", "[[]]", "[]")
	expectNoCosts(t, "1", "[]", "[1]")
	expectNoCosts(t, "1", "[[1]]", "[1]")
}

func TestCostsOfAllSmallTerms(t *testing.T) {
	for _, list := range picturesUpTo(11) {
		for _, p := range list {
			if got := impl.FlatSteps(p.text()); got != len(p.instructions()) {
				t.Errorf("FlatSteps(%q) = %d", p.text(), got)
			}
			expectCosts(t, p, numbersTree(), listsTree())
			expectCosts(t, p, numbersTree(2, 0, 1), listsTree(numbersTree(), numbersTree(10006, 3)))
		}
	}
}

func TestCostsOfRandomTerms(t *testing.T) {
	source := rand.New(rand.NewSource(92))
	cheaper := 0
	expectRandomRuns(t, source, 2400, func(p picture, a, b tree, want ran) {
		expectCosts(t, p, a, b)
		q := otherTerm(source, p)
		other, ok := q.run(a, b)
		if want.why == "memory" || !ok {
			return
		}
		expectCheaper(t, p, q, a, b, want, other)
		cheaper += oneFor(givesSame(p, q, want, other) && want.work < other.work)
	})
	if cheaper < 150 {
		t.Errorf("only %d terms are cheaper", cheaper)
	}
}

// loopsOver returns loops within loops that read any of the variables, over arrays of the depth 1 or the parts of such of the depth 2.
func loopsOver(source *rand.Rand, vars string, levels int) string {
	name := func(names string) string { return string(names[source.Intn(len(names))]) }
	if levels == 0 {
		return "(" + name(vars) + "+" + name(vars) + ")"
	}
	bound := name("xyz")
	over := []string{"a", "I3", "Cb", "Ra", "I" + name(vars), "{y:a>" + name(vars+"y") + "}", "[z:b>Nz]", "[x:a>(x+" + name(vars+"x") + ")]"}[source.Intn(8)]
	if levels == 1 && source.Intn(3) == 0 {
		return "[" + bound + ":" + over + ">S[" + name("xyz") + ":a>" + name(vars+bound) + "]]"
	}
	return "[" + bound + ":" + over + ">" + loopsOver(source, vars+bound, levels-1) + "]"
}

// Variables are bound twice here, and read outside of the loops that bind them.
func TestCostsOfLoopsThatBindTheSameVariables(t *testing.T) {
	source := rand.New(rand.NewSource(93))
	spread := 0
	for range 2000 {
		s := loopsOver(source, "7", 1+source.Intn(3))
		if len(s) > 80 {
			continue
		}
		p, a, b := pictureOf(s), fewNumbers(source), fewLists(source)
		expectCosts(t, p, a, b)
		spread += oneFor(impl.SpreadOf(s, a.text(), b.text()) > 0)
	}
	if spread < 800 {
		t.Errorf("only %d terms copy numbers", spread)
	}
}

func TestSpreadOfArraysLongerThanMemory(t *testing.T) {
	a, b := ones(399), "["+strings.Repeat("[],", 132)+"[]]"
	once := 199 * 133
	twice := once * 133
	thrice := twice * 133
	for s, want := range map[string]int{
		// In each loop of y over one part all that is read is copied once, and in those of x over 133 parts as often.
		"[z:[y:I1>C[x:b>a]]>[v:[y:I1>C[x:b>z]]>[w:[y:I1>C[x:b>v]]>NC[x:b>w]]]]": 199 + once + once + twice + twice + thrice + 133*thrice,
		"[z:[y:I1>C[x:b>a]]>[v:[y:I1>PRC[x:b>z]]>[x:b>Sv]]]":                    199 + once + once + twice + 133*twice,
		"[z:[y:I1>[x:b>a]]>[v:[y:I1>C[x:b>z]]>[x:b>Nv]]]":                       199 + once + once + twice + 133*twice,
		"[z:[y:I1>[x:b>a]]>[v:[y:I1>RC[x:b>z]]>[x:b>NCv]]]":                     199 + once + once + twice + 133*twice,
	} {
		if got := impl.SpreadOf(s, a, b); got != want {
			t.Errorf("SpreadOf(%q) = %d, not %d", s, got, want)
		}
		expectShares(t, s, a, b)
	}
}

func TestWorkByLevelIsNewMemory(t *testing.T) {
	call := func() []int {
		list, _ := impl.WorkByLevel("[x:b>Sx]", "[1,2]", "[[1,2],[],[3]]")
		return list[:cap(list)]
	}
	if !markAll([][]int{call(), call()}) {
		t.Error("WorkByLevel keeps memory")
	}
	if got := call()[:2]; fmt.Sprint(got) != "[2 6]" {
		t.Errorf("WorkByLevel again = %v", got)
	}
}
