package tests

import (
	"fmt"
	"math"
	"math/rand"
	"slices"
	"testing"

	"loop.example/flatarrays/impl"
)

// segments is the tests' own picture of data that is cut: a list for each segment.
type segments [][]int

func (s segments) lengths() []int {
	list := []int{}
	for _, segment := range s {
		list = append(list, len(segment))
	}
	return list
}

func (s segments) data() []int {
	return slices.Concat(s...)
}

// cut returns the segments of a list, whose lengths are right.
func cut(lengths []int, list []int) segments {
	s := segments{}
	for _, length := range lengths {
		s = append(s, list[:length])
		list = list[length:]
	}
	return s
}

// total returns the sum of numbers, from which 10007 is taken away until it is less.
func total(list []int) int {
	sum := 0
	for _, n := range list {
		sum += n
	}
	for sum >= 10007 {
		sum -= 10007
	}
	return sum
}

func randomSegments(source *rand.Rand) segments {
	s := segments{}
	for range source.Intn(7) {
		s = append(s, randomNumbers(source, source.Intn(2)*source.Intn(6)))
	}
	return s
}

func randomNumbers(source *rand.Rand, count int) []int {
	list := []int{}
	for range count {
		list = append(list, []int{0, 1, 10006, source.Intn(10007)}[source.Intn(4)])
	}
	return list
}

func expectList(t *testing.T, name string, got []int, ok bool, want []int) {
	t.Helper()
	if !ok || !slices.Equal(got, want) {
		t.Errorf("%s = %.200s, %v, not %.200s", name, fmt.Sprint(got), ok, fmt.Sprint(want))
	}
}

func expectNoList(t *testing.T, name string, got []int, ok bool) {
	t.Helper()
	if ok || len(got) != 0 {
		t.Errorf("%s = %.200s, %v", name, fmt.Sprint(got), ok)
	}
}

// expectSegments checks all functions of one list of data, and of lengths alone.
func expectSegments(t *testing.T, s segments) {
	t.Helper()
	lengths, data := s.lengths(), s.data()
	starts, counted, sums, most, scans := []int{}, []int{}, []int{}, []int{}, []int{}
	for i, segment := range s {
		starts = append(starts, len(s[:i].data()))
		sums = append(sums, total(segment))
		most = append(most, slices.Max(append([]int{0}, segment...)))
		for j := range segment {
			counted = append(counted, j)
			scans = append(scans, total(segment[:j]))
		}
	}
	if !impl.SegmentsValid(lengths, data) {
		t.Errorf("SegmentsValid(%.200s, %.200s) is false", fmt.Sprint(lengths), fmt.Sprint(data))
	}
	got, ok := impl.StartsOf(lengths)
	expectList(t, "StartsOf", got, ok, starts)
	got, ok = impl.CountUp(lengths)
	expectList(t, "CountUp", got, ok, counted)
	got, ok = impl.SumSegments(lengths, data)
	expectList(t, "SumSegments", got, ok, sums)
	got, ok = impl.MostSegments(lengths, data)
	expectList(t, "MostSegments", got, ok, most)
	got, ok = impl.ScanSegments(lengths, data)
	expectList(t, "ScanSegments", got, ok, scans)
}

// expectPacked checks that of each segment the numbers are left whose flag is not 0.
func expectPacked(t *testing.T, s segments, flags []int) {
	t.Helper()
	want := segments{}
	for i, segment := range cut(s.lengths(), flags) {
		left := []int{}
		for j, flag := range segment {
			if flag != 0 {
				left = append(left, s[i][j])
			}
		}
		want = append(want, left)
	}
	counts, packed, ok := impl.PackSegments(s.lengths(), s.data(), flags)
	expectList(t, "PackSegments", counts, ok, want.lengths())
	expectList(t, "PackSegments", packed, ok, want.data())
}

func expectSpread(t *testing.T, lengths []int, values []int) {
	t.Helper()
	want := []int{}
	for i, length := range lengths {
		want = append(want, slices.Repeat([]int{values[i]}, length)...)
	}
	got, ok := impl.SpreadValues(lengths, values)
	expectList(t, "SpreadValues", got, ok, want)
}

func expectMerged(t *testing.T, outer []int, inner []int) {
	t.Helper()
	want := []int{}
	for _, segment := range cut(outer, inner) {
		want = append(want, total(segment))
	}
	got, ok := impl.MergeLengths(outer, inner)
	expectList(t, "MergeLengths", got, ok, want)
}

// expectNoData checks that no function takes data cut by lengths, or flags of right data.
func expectNoData(t *testing.T, lengths []int, data []int) {
	t.Helper()
	if impl.SegmentsValid(lengths, data) {
		t.Errorf("SegmentsValid(%.200s, %.200s)", fmt.Sprint(lengths), fmt.Sprint(data))
	}
	got, ok := impl.SumSegments(lengths, data)
	expectNoList(t, "SumSegments", got, ok)
	got, ok = impl.MostSegments(lengths, data)
	expectNoList(t, "MostSegments", got, ok)
	got, ok = impl.ScanSegments(lengths, data)
	expectNoList(t, "ScanSegments", got, ok)
	right := make([]int, min(max(sum(lengths), 0), 1000))
	for _, lists := range [][2][]int{{data, data}, {data, right}, {right, data}, {data, make([]int, len(data))}} {
		counts, packed, ok := impl.PackSegments(lengths, lists[0], lists[1])
		expectNoList(t, "PackSegments", counts, ok)
		expectNoList(t, "PackSegments", packed, ok)
	}
}

func sum(list []int) int {
	sum := 0
	for _, n := range list {
		sum += n
	}
	return sum
}

// expectNoLengths checks that no function takes a list as lengths, whatever it is to cut.
func expectNoLengths(t *testing.T, lengths []int) {
	t.Helper()
	got, ok := impl.StartsOf(lengths)
	expectNoList(t, "StartsOf", got, ok)
	got, ok = impl.CountUp(lengths)
	expectNoList(t, "CountUp", got, ok)
	got, ok = impl.SpreadValues(lengths, make([]int, len(lengths)))
	expectNoList(t, "SpreadValues", got, ok)
	got, ok = impl.MergeLengths([]int{len(lengths)}, lengths)
	expectNoList(t, "MergeLengths", got, ok)
	got, ok = impl.MergeLengths(slices.Repeat([]int{1}, len(lengths)), lengths)
	expectNoList(t, "MergeLengths", got, ok)
	// Other data than as many numbers as the sum is wrong anyway.
	for _, count := range []int{0, 1, len(lengths), min(max(sum(lengths), 0), 1000)} {
		expectNoData(t, lengths, make([]int, count))
		got, ok = impl.MergeLengths(lengths, make([]int, count))
		expectNoList(t, "MergeLengths", got, ok)
	}
}

func TestLimitOfData(t *testing.T) {
	if impl.MaxData != 400 {
		t.Error("the limit is not that of the document")
	}
}

func TestWhatIsDoneToEachSegment(t *testing.T) {
	for _, s := range []segments{
		{},
		{{}},
		{{}, {}, {}},
		{{0}},
		{{10006}},
		{{5, 6}, {}, {7}},
		{{}, {5, 6}, {7}},
		{{5, 6}, {7}, {}},
		{{}, {}, {5}, {}, {}, {6}, {}, {}},
		{{3, 1, 2}, {2, 1, 3}, {1, 3, 2}, {4, 4, 4}},
		{{10006, 1}, {10006, 2}, {10006}, {1, 10006}, {0, 0}},
		{{10006, 1, 0}, {10006, 1, 1}, {5003, 5004, 7}, {5003, 5003, 7}},
		{slices.Repeat([]int{10006}, 10), {}, slices.Repeat([]int{10006}, 390)},
	} {
		expectSegments(t, s)
	}
}

func TestSumsOfSegments(t *testing.T) {
	for _, c := range []struct {
		data []int
		want int
	}{
		{nil, 0},
		{[]int{10006}, 10006},
		{[]int{10005, 1}, 10006},
		{[]int{10006, 1}, 0},
		{[]int{10006, 2}, 1},
		{[]int{10006, 10006}, 10005},
		{[]int{10006, 10006, 1}, 10006},
		{[]int{10006, 10006, 2}, 0},
		{[]int{10006, 10006, 3}, 1},
		{slices.Repeat([]int{10006}, 399), 9608},
		{slices.Repeat([]int{10006}, 400), 9607},
	} {
		got, ok := impl.SumSegments([]int{len(c.data)}, c.data)
		expectList(t, "SumSegments", got, ok, []int{c.want})
		if len(c.data) == 400 {
			continue // There is no room for one more.
		}
		// With one number more behind them, the last sum is that of all of them.
		scans, ok := impl.ScanSegments([]int{len(c.data) + 1}, append(slices.Clone(c.data), 7))
		if !ok || len(scans) != len(c.data)+1 || scans[len(c.data)] != c.want {
			t.Errorf("ScanSegments(%.50s) = %.200s, %v, not %d at the end", fmt.Sprint(c.data), fmt.Sprint(scans), ok, c.want)
		}
	}
}

func TestSpreadValues(t *testing.T) {
	for _, c := range []struct{ lengths, values []int }{
		{nil, nil},
		{[]int{0}, []int{7}},
		{[]int{3}, []int{10006}},
		{[]int{0, 0}, []int{7, 8}},
		{[]int{2, 0, 3}, []int{4, 5, 6}},
		{[]int{0, 2, 0}, []int{4, 5, 6}},
		{[]int{1, 1, 1}, []int{0, 10006, 0}},
		{[]int{400}, []int{10006}},
		{slices.Repeat([]int{1}, 400), slices.Repeat([]int{1, 10006}, 200)},
		{append(make([]int, 399), 400), slices.Repeat([]int{10006}, 400)},
	} {
		expectSpread(t, c.lengths, c.values)
	}
}

func TestSpreadValuesThatAreNone(t *testing.T) {
	for _, c := range []struct{ lengths, values []int }{
		{nil, []int{1}},
		{[]int{0}, nil},
		{[]int{2}, nil},
		{[]int{2}, []int{1, 1}},
		{[]int{2, 0, 3}, []int{4, 5}},
		{[]int{2, 0, 3}, []int{4, 5, 6, 7}},
		{[]int{2, 0, 3}, []int{4, 4, 5, 5, 5}},
		{[]int{2}, []int{-1}},
		{[]int{2}, []int{10007}},
		{[]int{0}, []int{-1}},
		{[]int{0}, []int{10007}},
		{[]int{2, 2}, []int{1, math.MinInt}},
		{[]int{2, 2}, []int{math.MaxInt, 1}},
		{make([]int, 400), make([]int, 399)},
		{make([]int, 400), make([]int, 401)},
	} {
		got, ok := impl.SpreadValues(c.lengths, c.values)
		expectNoList(t, "SpreadValues", got, ok)
	}
}

func TestPackSegments(t *testing.T) {
	for _, c := range []struct {
		s     segments
		flags []int
	}{
		{segments{}, nil},
		{segments{{}}, nil},
		{segments{{}, {}}, nil},
		{segments{{5}}, []int{0}},
		{segments{{5}}, []int{1}},
		{segments{{5}}, []int{2}},
		{segments{{5}}, []int{10006}},
		{segments{{0, 0, 0}}, []int{1, 0, 1}},
		{segments{{5, 6}, {}, {7, 10006, 2}}, []int{0, 1, 1, 0, 9}},
		{segments{{}, {5, 6}, {7}, {}}, []int{0, 0, 10006}},
		{segments{{}, {5, 6}, {7}, {}}, []int{3, 2, 0}},
		{segments{make([]int, 400)}, slices.Repeat([]int{10006}, 400)},
		{segments{{}, slices.Repeat([]int{1, 2}, 200)}, slices.Repeat([]int{0, 10006}, 200)},
	} {
		expectPacked(t, c.s, c.flags)
	}
}

func TestFlagsThatAreNone(t *testing.T) {
	for _, c := range []struct{ lengths, data, flags []int }{
		{nil, nil, []int{0}},
		{[]int{0}, nil, []int{1}},
		{[]int{2}, []int{5, 6}, nil},
		{[]int{2}, []int{5, 6}, []int{1}},
		{[]int{2}, []int{5, 6}, []int{1, 1, 1}},
		{[]int{1, 1}, []int{5, 6}, []int{1, 1, 0}},
		{[]int{2}, []int{5, 6}, []int{1, -1}},
		{[]int{2}, []int{5, 6}, []int{-1, 0}},
		{[]int{2}, []int{5, 6}, []int{1, 10007}},
		{[]int{2}, []int{5, 6}, []int{math.MaxInt, 1}},
		{[]int{2}, []int{5, 6}, []int{math.MinInt, 1}},
		// The data is wrong, even where its flag is 0.
		{[]int{2}, []int{5}, []int{1, 1}},
		{[]int{2}, []int{5}, []int{1}},
		{[]int{2}, []int{5, 6, 7}, []int{1, 1, 0}},
		{[]int{2}, []int{5, -1}, []int{1, 0}},
		{[]int{2}, []int{10007, 5}, []int{0, 1}},
		// The lengths are wrong.
		{[]int{-1}, nil, nil},
		{[]int{3, -1}, []int{5, 6}, []int{1, 1}},
		{[]int{-1, 3}, []int{5, 6}, []int{1, 1}},
	} {
		counts, packed, ok := impl.PackSegments(c.lengths, c.data, c.flags)
		expectNoList(t, "PackSegments", counts, ok)
		expectNoList(t, "PackSegments", packed, ok)
	}
}

func TestMergeLengths(t *testing.T) {
	for _, c := range []struct{ outer, inner []int }{
		{nil, nil},
		{[]int{0}, nil},
		{[]int{0, 0}, nil},
		{[]int{1}, []int{0}},
		{[]int{2, 0, 1}, []int{3, 4, 5}},
		{[]int{0, 2, 1, 0}, []int{0, 4, 0}},
		{[]int{1, 1, 1}, []int{3, 0, 5}},
		{[]int{1}, []int{400}},
		{[]int{2, 1}, []int{200, 199, 1}},
		{[]int{400}, slices.Repeat([]int{1}, 400)},
		{slices.Repeat([]int{1}, 400), slices.Repeat([]int{1}, 400)},
		{append(make([]int, 399), 400), append(make([]int, 399), 400)},
	} {
		expectMerged(t, c.outer, c.inner)
	}
}

func TestMergeLengthsThatAreNone(t *testing.T) {
	for _, c := range []struct{ outer, inner []int }{
		{nil, []int{0}},
		{[]int{0}, []int{0}},
		{[]int{1}, nil},
		{[]int{2}, []int{3}},
		{[]int{2}, []int{3, 4, 0}},
		{[]int{2, 0, 1}, []int{3, 4}},
		{[]int{2, 0, 1}, []int{3, 4, 5, 0}},
		{[]int{3, -1}, []int{1, 2}},
		{[]int{-1, 3}, []int{1, 2}},
		{[]int{2}, []int{3, -1}},
		{[]int{2}, []int{-1, 3}},
		{[]int{1}, []int{401}},
		{[]int{2}, []int{400, 1}},
		{[]int{1, 1}, []int{200, 201}},
		{[]int{2}, []int{math.MaxInt, math.MaxInt}},
		{[]int{2}, []int{math.MinInt, math.MinInt}},
		{[]int{401}, make([]int, 401)},
		{slices.Repeat([]int{1}, 401), make([]int, 401)},
		{append(make([]int, 400), 1), []int{1}},
		{make([]int, 401), nil},
	} {
		got, ok := impl.MergeLengths(c.outer, c.inner)
		expectNoList(t, "MergeLengths", got, ok)
	}
}

func TestListsThatAreNoLengths(t *testing.T) {
	great := math.MaxInt/4 + 1
	for _, lengths := range [][]int{
		{-1}, {-1, 0}, {0, -1}, {1, -1}, {-1, 1}, {2, -1, 2}, {-1, 2, 2}, {2, 2, -1}, {401, -1}, {-1, 401}, {500, -100}, {-400},
		{401}, {402}, {10006}, {400, 1}, {1, 400}, {0, 401}, {401, 0}, {200, 201}, {200, 0, 200, 1}, slices.Repeat([]int{2}, 201), slices.Repeat([]int{400}, 400),
		{math.MinInt}, {math.MaxInt}, {math.MaxInt, 1}, {math.MaxInt, math.MinInt, 1}, {math.MinInt, math.MaxInt, 2},
		// What these add up to overflows, and seems to be right.
		{math.MaxInt, math.MaxInt, 2}, {math.MaxInt, math.MaxInt, 5}, {math.MinInt, math.MinInt}, {great, great, great, great, great, great, great, great},
		make([]int, 401), make([]int, 402), make([]int, 100000), slices.Repeat([]int{1}, 401), append(make([]int, 400), 1), append([]int{3}, make([]int, 400)...),
	} {
		expectNoLengths(t, lengths)
	}
}

func TestLimitsOfSegments(t *testing.T) {
	for _, lengths := range [][]int{
		{399}, {400}, {0, 400}, {400, 0}, {0, 400, 0}, {200, 200}, {1, 399}, {399, 1}, {399, 0, 1}, make([]int, 399), make([]int, 400),
		slices.Repeat([]int{1}, 399), slices.Repeat([]int{1}, 400), append(make([]int, 399), 400), append([]int{400}, make([]int, 399)...), slices.Repeat([]int{2, 0}, 200),
	} {
		for _, n := range []int{0, 1, 10005, 10006} {
			data := slices.Repeat([]int{n}, sum(lengths))
			expectSegments(t, cut(lengths, data))
			expectPacked(t, cut(lengths, data), data)
			expectSpread(t, lengths, slices.Repeat([]int{n}, len(lengths)))
			expectNoData(t, lengths, append(data, 0))
		}
		for _, n := range []int{-1, 10007, math.MinInt, math.MaxInt} {
			data := make([]int, sum(lengths))
			for _, at := range []int{0, len(data) / 2, len(data) - 1} {
				if len(data) > 0 {
					data[at] = n
					expectNoData(t, lengths, data)
					data[at] = 0
				}
			}
		}
		if count := sum(lengths); count > 0 {
			expectNoData(t, lengths, make([]int, count-1))
			expectNoData(t, lengths, nil)
		}
	}
}

func TestAllSmallSegments(t *testing.T) {
	valid := 0
	for _, lengths := range listsOf(3, []int{-1, 0, 1, 2}) {
		if slices.Contains(lengths, -1) {
			expectNoLengths(t, lengths)
		}
		for _, data := range listsOf(4, []int{-1, 0, 5004, 10006, 10007}) {
			if slices.Contains(lengths, -1) || slices.Contains(data, -1) || slices.Contains(data, 10007) || sum(lengths) != len(data) {
				expectNoData(t, lengths, data)
				continue
			}
			valid++
			expectSegments(t, cut(lengths, data))
			for _, flags := range listsOf(4, []int{0, 1, 10006}) {
				if len(flags) == len(data) {
					expectPacked(t, cut(lengths, data), flags)
				}
			}
		}
	}
	if valid < 500 {
		t.Errorf("only %d are valid", valid)
	}
}

// listsOf returns all lists of at most so many of some numbers.
func listsOf(most int, numbers []int) [][]int {
	lists := [][]int{{}}
	for at := 0; at < len(lists); at++ {
		for _, n := range numbers {
			if len(lists[at]) < most {
				lists = append(lists, append(slices.Clone(lists[at]), n))
			}
		}
	}
	return lists
}

func TestAllSmallMerges(t *testing.T) {
	lists := listsOf(4, []int{-1, 0, 1, 2})
	for _, outer := range lists {
		for _, inner := range lists {
			if !slices.Contains(outer, -1) && !slices.Contains(inner, -1) && sum(outer) == len(inner) {
				expectMerged(t, outer, inner)
				continue
			}
			got, ok := impl.MergeLengths(outer, inner)
			expectNoList(t, "MergeLengths", got, ok)
		}
	}
}

func TestSegmentsOfAnyNumbers(t *testing.T) {
	source := rand.New(rand.NewSource(3))
	for range 3000 {
		s := randomSegments(source)
		expectSegments(t, s)
		expectPacked(t, s, randomNumbers(source, len(s.data())))
		expectSpread(t, s.lengths(), randomNumbers(source, len(s)))
		inner := []int{}
		for range s.data() {
			inner = append(inner, source.Intn(10))
		}
		expectMerged(t, s.lengths(), inner)
	}
}

// A way is one function of the chapter that is given the lengths and the data of segments.
type way struct {
	name string
	do   func(lengths []int, data []int) ([]int, bool)
}

// ways has the functions whose result for all segments is that for each of them, one behind another.
func ways(flags func(data []int) []int) []way {
	return []way{
		{"SumSegments", impl.SumSegments},
		{"MostSegments", impl.MostSegments},
		{"ScanSegments", impl.ScanSegments},
		{"CountUp", func(lengths []int, data []int) ([]int, bool) { return impl.CountUp(lengths) }},
		{"MergeLengths", impl.MergeLengths},
		{"PackSegments", func(lengths []int, data []int) ([]int, bool) {
			counts, _, ok := impl.PackSegments(lengths, data, flags(data))
			return counts, ok
		}},
		{"PackSegments", func(lengths []int, data []int) ([]int, bool) {
			_, packed, ok := impl.PackSegments(lengths, data, flags(data))
			return packed, ok
		}},
	}
}

func TestWhatIsDoneToSegmentsIsDoneToEachByItself(t *testing.T) {
	odd := func(data []int) []int {
		flags := []int{}
		for _, n := range data {
			flags = append(flags, n%2)
		}
		return flags
	}
	source := rand.New(rand.NewSource(4))
	for range 1000 {
		s := randomSegments(source)
		for _, segment := range s {
			for i := range segment {
				segment[i] %= 10 // So that they are lengths as well.
			}
		}
		for _, w := range ways(odd) {
			want := []int{}
			for _, segment := range s {
				alone, ok := w.do([]int{len(segment)}, segment)
				if !ok {
					t.Errorf("%s(%v) by itself is not taken", w.name, segment)
				}
				want = append(want, alone...)
			}
			got, ok := w.do(s.lengths(), s.data())
			expectList(t, w.name, got, ok, want)
		}
	}
}

func TestManyScansAreReadyAtOnce(t *testing.T) {
	source := rand.New(rand.NewSource(5))
	for _, lengths := range [][]int{slices.Repeat([]int{1}, 400), slices.Repeat([]int{4}, 100), slices.Repeat([]int{100}, 4), {400}} {
		for range 50 {
			expectSegments(t, cut(lengths, randomNumbers(source, 400)))
		}
	}
}

func TestSegmentsAreNewMemory(t *testing.T) {
	for _, lists := range [][3][]int{{{2, 0, 1}, {3, 4, 5}, {1, 0, 1}}, {{1}, {1}, {1}}, {{1, 1, 1, 0}, {1, 1, 1}, {1, 1, 1}}, {{0, 0}, nil, nil}} {
		lengths, data, flags := roomy(lists[0], -7), roomy(lists[1], -7), roomy(lists[2], -7)
		given := [][]int{lengths[:cap(lengths)], data[:cap(data)], flags[:cap(flags)]}
		before := [][]int{slices.Clone(given[0]), slices.Clone(given[1]), slices.Clone(given[2])}
		var results [][]int
		for range 2 {
			starts, _ := impl.StartsOf(lengths)
			counted, _ := impl.CountUp(lengths)
			sums, _ := impl.SumSegments(lengths, data)
			most, _ := impl.MostSegments(lengths, data)
			scans, _ := impl.ScanSegments(lengths, data)
			spread, _ := impl.SpreadValues(lengths, lengths)
			merged, _ := impl.MergeLengths(lengths, data)
			counts, packed, _ := impl.PackSegments(lengths, data, flags)
			results = append(results, starts, counted, sums, most, scans, spread, merged, counts, packed)
		}
		for i, list := range results {
			results[i] = list[:cap(list)]
		}
		if !markAll(results) {
			t.Errorf("results of %v and %v share memory", lengths, data)
		}
		if !slices.EqualFunc(given, before, slices.Equal) {
			t.Errorf("the arguments %v are changed to %v", before, given)
		}
	}
}
