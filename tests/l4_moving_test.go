package tests

import (
	"fmt"
	"math"
	"math/rand"
	"slices"
	"testing"

	"loop.example/flatarrays/impl"
)

// isRange reports whether a list has all numbers from 0 on, each once.
func isRange(list []int) bool {
	sorted := slices.Sorted(slices.Values(list))
	for i, n := range sorted {
		if n != i {
			return false
		}
	}
	return true
}

// areWithin reports whether a list has at most 400 numbers, all from 0 to one less than a count.
func areWithin(list []int, count int) bool {
	return len(list) <= 400 && !slices.ContainsFunc(list, func(n int) bool { return n < 0 || n >= count })
}

// expectListIf checks a list if it is to be one, and that there is none otherwise.
func expectListIf(t *testing.T, valid bool, name string, got []int, ok bool, want []int) {
	t.Helper()
	if valid {
		expectList(t, name, got, ok, want)
	} else {
		expectNoList(t, name, got, ok)
	}
}

// expectMoved checks what becomes of data with indices, right or not.
func expectMoved(t *testing.T, data []int, at []int) {
	t.Helper()
	taken := areWithin(data, 10007) && areWithin(at, len(data))
	gathered := []int{}
	for _, index := range at {
		if taken {
			gathered = append(gathered, data[index])
		}
	}
	got, ok := impl.GatherData(data, at)
	expectListIf(t, taken, fmt.Sprintf("GatherData(%.50s, %.50s)", fmt.Sprint(data), fmt.Sprint(at)), got, ok, gathered)
	taken = taken && isRange(at) && len(data) == len(at)
	scattered := make([]int, len(data))
	for i, index := range at {
		if taken {
			scattered[index] = data[i]
		}
	}
	got, ok = impl.ScatterData(data, at)
	expectListIf(t, taken, fmt.Sprintf("ScatterData(%.50s, %.50s)", fmt.Sprint(data), fmt.Sprint(at)), got, ok, scattered)
}

// expectIndices checks whether indices are taken as a permutation, and where they stand.
func expectIndices(t *testing.T, at []int) {
	t.Helper()
	is := len(at) <= 400 && isRange(at)
	if impl.IsPermutation(at) != is {
		t.Errorf("IsPermutation(%.200s) is not %v", fmt.Sprint(at), is)
	}
	places := []int{}
	for i := range at {
		places = append(places, slices.Index(at, i))
	}
	got, ok := impl.InvertIndices(at)
	expectListIf(t, is, fmt.Sprintf("InvertIndices(%.50s)", fmt.Sprint(at)), got, ok, places)
}

// expectSorted checks the indices that turn and sort segments.
func expectSorted(t *testing.T, s segments) {
	t.Helper()
	turned, sorted := []int{}, []int{}
	for i, segment := range s {
		start := len(s[:i].data())
		left := []int{}
		for j := range segment {
			turned = append(turned, start+len(segment)-1-j)
			left = append(left, j)
		}
		// Take the first one of the least numbers that are left, again and again.
		for len(left) > 0 {
			least := 0
			for k, j := range left {
				if segment[j] < segment[left[least]] {
					least = k
				}
			}
			sorted = append(sorted, start+left[least])
			left = slices.Delete(left, least, least+1)
		}
	}
	got, ok := impl.TurnSegments(s.lengths())
	expectList(t, fmt.Sprintf("TurnSegments(%.50s)", fmt.Sprint(s.lengths())), got, ok, turned)
	got, ok = impl.SortSegments(s.lengths(), s.data())
	expectList(t, fmt.Sprintf("SortSegments(%.50s)", fmt.Sprint(s)), got, ok, sorted)
}

// expectPicked checks the segments at indices, right or not.
func expectPicked(t *testing.T, s segments, at []int) {
	t.Helper()
	taken := areWithin(at, len(s))
	want := segments{}
	for _, index := range at {
		if taken {
			want = append(want, s[index])
		}
	}
	taken = taken && len(want.data()) <= 400
	name := fmt.Sprintf("PickSegments(%.50s, %.50s)", fmt.Sprint(s), fmt.Sprint(at))
	lengths, data, ok := impl.PickSegments(s.lengths(), s.data(), at)
	expectListIf(t, taken, name, lengths, ok, want.lengths())
	expectListIf(t, taken, name, data, ok, want.data())
}

// expectWoven checks what is woven by right flags of right numbers, which may be too few or too many.
func expectWoven(t *testing.T, flags []int, a []int, b []int) {
	t.Helper()
	woven, restA, restB, taken := []int{}, a, b, true
	for _, flag := range flags {
		from := &restA
		if flag == 0 {
			from = &restB
		}
		if taken = taken && len(*from) > 0; !taken {
			break
		}
		woven = append(woven, (*from)[0])
		*from = (*from)[1:]
	}
	taken = taken && len(restA) == 0 && len(restB) == 0
	got, ok := impl.WeaveData(flags, a, b)
	expectListIf(t, taken, fmt.Sprintf("WeaveData(%.50s, %.50s, %.50s)", fmt.Sprint(flags), fmt.Sprint(a), fmt.Sprint(b)), got, ok, woven)
}

func TestMovedNumbers(t *testing.T) {
	for _, c := range []struct{ data, at, gathered, scattered []int }{
		{nil, nil, nil, nil},
		{[]int{5}, []int{0}, []int{5}, []int{5}},
		{[]int{5, 6}, []int{1, 0}, []int{6, 5}, []int{6, 5}},
		{[]int{5, 6, 7}, []int{2, 0, 1}, []int{7, 5, 6}, []int{6, 7, 5}},
		{[]int{5, 6, 7}, []int{1, 2, 0}, []int{6, 7, 5}, []int{7, 5, 6}},
		{[]int{0, 10006, 0, 1}, []int{3, 1, 0, 2}, []int{1, 10006, 0, 0}, []int{0, 10006, 1, 0}},
	} {
		got, ok := impl.GatherData(c.data, c.at)
		expectList(t, "GatherData", got, ok, c.gathered)
		got, ok = impl.ScatterData(c.data, c.at)
		expectList(t, "ScatterData", got, ok, c.scattered)
		expectMoved(t, c.data, c.at)
		expectIndices(t, c.at)
	}
}

func TestGatherAnyIndices(t *testing.T) {
	for _, c := range []struct{ data, at, want []int }{
		{[]int{5, 6, 7}, nil, nil},
		{[]int{5, 6, 7}, []int{1}, []int{6}},
		{[]int{5, 6, 7}, []int{2, 2}, []int{7, 7}},
		{[]int{5, 6, 7}, []int{2, 0, 2, 1, 2}, []int{7, 5, 7, 6, 7}},
		{[]int{5}, slices.Repeat([]int{0}, 400), slices.Repeat([]int{5}, 400)},
		{append(make([]int, 399), 10006), slices.Repeat([]int{399, 0}, 200), slices.Repeat([]int{10006, 0}, 200)},
	} {
		got, ok := impl.GatherData(c.data, c.at)
		expectList(t, "GatherData", got, ok, c.want)
	}
}

func TestGatherTooManyIndices(t *testing.T) {
	for _, data := range [][]int{{5}, {5, 6, 7}, make([]int, 400)} {
		for _, count := range []int{399, 400, 401, 402, 100000} {
			expectMoved(t, data, make([]int, count))
			got, ok := impl.GatherData(data, make([]int, count))
			expectListIf(t, count <= 400, "GatherData", got, ok, slices.Repeat([]int{data[0]}, count))
		}
	}
}

func TestIndicesOfNoNumber(t *testing.T) {
	for _, data := range [][]int{nil, {5}, {5, 6, 7}, make([]int, 400)} {
		for _, index := range []int{-1, -2, len(data), len(data) + 1, 400, 401, math.MinInt, math.MaxInt} {
			for _, at := range [][]int{{index}, {index, 0}, {0, index}, {0, 0, index, 0}, append(make([]int, 399), index)} {
				if index < 0 || index >= len(data) {
					expectMoved(t, data, at)
					got, ok := impl.GatherData(data, at)
					expectNoList(t, "GatherData", got, ok)
				}
			}
		}
	}
	got, ok := impl.GatherData(nil, []int{0})
	expectNoList(t, "GatherData", got, ok)
}

func TestIndicesThatAreNoPermutation(t *testing.T) {
	for _, at := range [][]int{
		{1}, {-1}, {2}, {0, 0}, {1, 1}, {0, 2}, {2, 0}, {-1, 0}, {0, -1}, {1, 2}, {-1, 1}, {0, 1, 1}, {0, 0, 1}, {1, 0, 1}, {0, 1, 3}, {1, 2, 3}, {0, 2, 2}, {0, 1, -1},
		{2, 2, 2}, {1, 1, 1}, {0, 0, 0}, {0, 3, 0, 3}, {1, 1, 3, 3}, {1, 0, 3, 3}, {math.MaxInt}, {math.MinInt}, {0, math.MaxInt}, {math.MinInt, 0}, {400}, {399}, {401},
		make([]int, 400), append(make([]int, 399), 399), slices.Repeat([]int{399}, 400),
	} {
		if impl.IsPermutation(at) {
			t.Errorf("IsPermutation(%.200s)", fmt.Sprint(at))
		}
		got, ok := impl.InvertIndices(at)
		expectNoList(t, "InvertIndices", got, ok)
		got, ok = impl.ScatterData(make([]int, len(at)), at)
		expectNoList(t, "ScatterData", got, ok)
	}
}

func TestScatterOtherCounts(t *testing.T) {
	for _, count := range []int{0, 1, 2, 3, 7, 399, 400} {
		at := rand.New(rand.NewSource(int64(count))).Perm(count)
		for _, other := range []int{-2, -1, 0, 1, 2} {
			if count+other < 0 {
				continue
			}
			got, ok := impl.ScatterData(make([]int, count+other), at)
			expectListIf(t, other == 0, "ScatterData", got, ok, make([]int, count))
		}
	}
}

func TestAllSmallIndices(t *testing.T) {
	lists := listsOf(5, []int{-1, 0, 1, 2, 3, 4, 5})
	right := 0
	for _, at := range lists {
		expectIndices(t, at)
		for count := range 7 {
			expectMoved(t, []int{6, 10006, 0, 6, 1, 2}[:min(count, 6)], at)
		}
		if impl.IsPermutation(at) {
			right++
		}
	}
	if want := 1 + 1 + 2 + 6 + 24 + 120; right != want {
		t.Errorf("%d lists are permutations, not %d", right, want)
	}
}

func TestAllSmallDataMoved(t *testing.T) {
	for _, data := range listsOf(3, []int{-1, 0, 1, 10006, 10007}) {
		for _, at := range listsOf(4, []int{0, 1, 2}) {
			expectMoved(t, data, at)
		}
	}
}

func TestTurnAndSortSegments(t *testing.T) {
	for _, c := range []struct {
		s              segments
		turned, sorted []int
	}{
		{segments{}, nil, nil},
		{segments{{}}, nil, nil},
		{segments{{}, {}, {}}, nil, nil},
		{segments{{7}}, []int{0}, []int{0}},
		{segments{{7, 7}}, []int{1, 0}, []int{0, 1}},
		{segments{{8, 7}}, []int{1, 0}, []int{1, 0}},
		{segments{{4, 1, 4}, {9, 0}}, []int{2, 1, 0, 4, 3}, []int{1, 0, 2, 4, 3}},
		{segments{{}, {3, 2, 1}, {}, {}, {10006, 0}, {}}, []int{2, 1, 0, 4, 3}, []int{2, 1, 0, 4, 3}},
		{segments{{2, 1, 2, 1, 2, 1}}, []int{5, 4, 3, 2, 1, 0}, []int{1, 3, 5, 0, 2, 4}},
		{segments{{1}, {0}, {2}}, []int{0, 1, 2}, []int{0, 1, 2}},
		{segments{{1, 0}, {1, 0}, {0, 1}}, []int{1, 0, 3, 2, 5, 4}, []int{1, 0, 3, 2, 4, 5}},
	} {
		got, ok := impl.TurnSegments(c.s.lengths())
		expectList(t, "TurnSegments", got, ok, c.turned)
		got, ok = impl.SortSegments(c.s.lengths(), c.s.data())
		expectList(t, "SortSegments", got, ok, c.sorted)
		expectSorted(t, c.s)
	}
}

func TestSortLongSegments(t *testing.T) {
	source := rand.New(rand.NewSource(6))
	for _, lengths := range [][]int{{400}, {399}, {200, 200}, {0, 400, 0}, {13, 0, 387}, slices.Repeat([]int{20}, 20), slices.Repeat([]int{1}, 400), make([]int, 400), append(make([]int, 399), 400)} {
		for _, kinds := range []int{1, 2, 5, 10007} {
			data := []int{}
			for range sum(lengths) {
				data = append(data, source.Intn(kinds))
			}
			expectSorted(t, cut(lengths, data))
		}
		expectSorted(t, cut(lengths, slices.Repeat([]int{10006}, sum(lengths))))
	}
}

// expectNothingPicked checks that neither PickSegments nor SortSegments takes lengths with data.
func expectNothingPicked(t *testing.T, lengths []int, data []int) {
	t.Helper()
	got, ok := impl.SortSegments(lengths, data)
	expectNoList(t, "SortSegments", got, ok)
	for _, at := range [][]int{nil, {0}} {
		got, others, ok := impl.PickSegments(lengths, data, at)
		expectNoList(t, "PickSegments", got, ok)
		expectNoList(t, "PickSegments", others, ok)
	}
}

func TestSegmentsThatAreNotMoved(t *testing.T) {
	for _, c := range []struct{ lengths, data []int }{
		{nil, []int{1}},
		{[]int{0}, []int{1}},
		{[]int{1}, nil},
		{[]int{3}, nil},
		{[]int{3}, []int{1, 2}},
		{[]int{3}, []int{1, 2, 3, 4}},
		{[]int{2, 0, 1}, []int{1, 2}},
		{[]int{2, 0, 1}, []int{1, 2, 3, 4}},
		{[]int{1, 1}, []int{-1, 0}},
		{[]int{1, 1}, []int{0, -1}},
		{[]int{1, 1}, []int{0, 10007}},
		{[]int{2}, []int{math.MaxInt, 0}},
		{[]int{2}, []int{0, math.MinInt}},
		{[]int{400}, make([]int, 399)},
		{[]int{400}, make([]int, 401)},
	} {
		expectNothingPicked(t, c.lengths, c.data)
	}
	for _, lengths := range [][]int{
		{-1}, {1, -1}, {-1, 1}, {2, -1, 2}, {401}, {400, 1}, {1, 400}, {200, 201}, make([]int, 401), slices.Repeat([]int{1}, 401), append([]int{3}, make([]int, 400)...),
		{math.MaxInt}, {math.MinInt}, {math.MaxInt, math.MaxInt, 2}, {math.MaxInt, math.MaxInt, 5}, {math.MinInt, math.MinInt},
	} {
		got, ok := impl.TurnSegments(lengths)
		expectNoList(t, "TurnSegments", got, ok)
		for _, count := range []int{0, 1, 3, min(max(sum(lengths), 0), 1000)} {
			expectNothingPicked(t, lengths, make([]int, count))
		}
	}
}

func TestPickSegments(t *testing.T) {
	for _, c := range []struct {
		s    segments
		at   []int
		want segments
	}{
		{segments{}, nil, segments{}},
		{segments{{5, 6}, {}, {7}}, nil, segments{}},
		{segments{{5, 6}, {}, {7}}, []int{0}, segments{{5, 6}}},
		{segments{{5, 6}, {}, {7}}, []int{1}, segments{{}}},
		{segments{{5, 6}, {}, {7}}, []int{2}, segments{{7}}},
		{segments{{5, 6}, {}, {7}}, []int{2, 0, 1, 2}, segments{{7}, {5, 6}, {}, {7}}},
		{segments{{5, 6}, {}, {7}}, []int{0, 0, 0}, segments{{5, 6}, {5, 6}, {5, 6}}},
		{segments{{}, {5, 6}, {}}, []int{2, 1, 0}, segments{{}, {5, 6}, {}}},
		{segments{{}, {}}, []int{1, 0, 1}, segments{{}, {}, {}}},
		{segments{{10006}, {0}}, []int{1, 0, 1}, segments{{0}, {10006}, {0}}},
	} {
		lengths, data, ok := impl.PickSegments(c.s.lengths(), c.s.data(), c.at)
		expectList(t, "PickSegments", lengths, ok, c.want.lengths())
		expectList(t, "PickSegments", data, ok, c.want.data())
		expectPicked(t, c.s, c.at)
	}
}

func TestPickSegmentsThatAreNone(t *testing.T) {
	for _, s := range []segments{{}, {{}}, {{5}}, {{5, 6}, {}, {7}}, {{}, {5}, {}}, cut([]int{400}, make([]int, 400)), cut(make([]int, 400), nil)} {
		for _, index := range []int{-1, -2, len(s), len(s) + 1, len(s.data()) + 1, math.MinInt, math.MaxInt} {
			for _, at := range [][]int{{index}, {index, 0}, {0, index}} {
				if index < 0 || index >= len(s) {
					expectPicked(t, s, at)
					lengths, data, ok := impl.PickSegments(s.lengths(), s.data(), at)
					expectNoList(t, "PickSegments", lengths, ok)
					expectNoList(t, "PickSegments", data, ok)
				}
			}
		}
	}
}

func TestPickTooManyNumbers(t *testing.T) {
	ones := slices.Repeat([]int{1}, 400)
	for _, c := range []struct {
		lengths []int
		at      []int
		ok      bool
	}{
		{[]int{400}, []int{0}, true},
		{[]int{400}, []int{0, 0}, false},
		{[]int{400, 0}, []int{1, 0, 1}, true},
		{[]int{399, 1}, []int{1, 0}, true},
		{[]int{399, 1}, []int{1, 0, 1}, false},
		{[]int{399, 1}, []int{1, 1, 1, 1}, true},
		{[]int{200}, []int{0, 0}, true},
		{[]int{200, 1}, []int{0, 0, 1}, false},
		{[]int{201}, []int{0, 0}, false},
		{[]int{300}, []int{0, 0}, false},
		{[]int{1}, make([]int, 399), true},
		{[]int{1}, make([]int, 400), true},
		{[]int{1}, make([]int, 401), false},
		{[]int{0}, make([]int, 400), true},
		{[]int{0}, make([]int, 401), false},
		{[]int{0, 2}, append(ones[:200:200], make([]int, 200)...), true},
		{[]int{0, 2}, append(ones[:201:201], 0), false},
		{[]int{400}, make([]int, 400), false},
		{[]int{1}, make([]int, 100000), false},
	} {
		data := slices.Repeat([]int{10006}, sum(c.lengths))
		lengths, picked, ok := impl.PickSegments(c.lengths, data, c.at)
		if ok != c.ok {
			t.Errorf("PickSegments of %v at %d indices is %v", c.lengths, len(c.at), ok)
		}
		if c.ok {
			expectPicked(t, cut(c.lengths, data), c.at)
			continue
		}
		expectNoList(t, "PickSegments", lengths, ok)
		expectNoList(t, "PickSegments", picked, ok)
	}
}

func TestAllSmallSegmentsMoved(t *testing.T) {
	for _, lengths := range listsOf(3, []int{0, 1, 2, 3}) {
		for _, data := range listsOf(5, []int{0, 1, 10006}) {
			if sum(lengths) != len(data) {
				if len(data) < 3 {
					expectNothingPicked(t, lengths, data)
				}
				continue
			}
			expectSorted(t, cut(lengths, data))
		}
	}
	for _, lengths := range listsOf(3, []int{0, 1, 2}) {
		s := cut(lengths, []int{5, 0, 10006, 5, 7, 8}[:sum(lengths)])
		for _, at := range listsOf(4, []int{-1, 0, 1, 2, 3}) {
			expectPicked(t, s, at)
		}
	}
}

func TestWeaveData(t *testing.T) {
	for _, c := range []struct{ flags, a, b, want []int }{
		{nil, nil, nil, nil},
		{[]int{1}, []int{5}, nil, []int{5}},
		{[]int{0}, nil, []int{5}, []int{5}},
		{[]int{1, 0, 0, 7}, []int{4, 5}, []int{6, 8}, []int{4, 6, 8, 5}},
		{[]int{0, 1}, []int{5}, []int{6}, []int{6, 5}},
		{[]int{2, 10006, 1}, []int{0, 10006, 0}, nil, []int{0, 10006, 0}},
		{[]int{0, 0, 0}, nil, []int{3, 3, 10006}, []int{3, 3, 10006}},
		{make([]int, 400), nil, slices.Repeat([]int{10006}, 400), slices.Repeat([]int{10006}, 400)},
		{slices.Repeat([]int{10006}, 400), slices.Repeat([]int{1, 2}, 200), nil, slices.Repeat([]int{1, 2}, 200)},
		{slices.Repeat([]int{0, 1}, 200), slices.Repeat([]int{3}, 200), slices.Repeat([]int{4}, 200), slices.Repeat([]int{4, 3}, 200)},
		{append(make([]int, 399), 1), []int{3}, slices.Repeat([]int{4}, 399), append(slices.Repeat([]int{4}, 399), 3)},
	} {
		got, ok := impl.WeaveData(c.flags, c.a, c.b)
		expectList(t, "WeaveData", got, ok, c.want)
		expectWoven(t, c.flags, c.a, c.b)
	}
}

func TestWeaveDataOfOtherCounts(t *testing.T) {
	for _, c := range []struct{ flags, a, b []int }{
		{nil, []int{1}, nil},
		{nil, nil, []int{1}},
		{[]int{1}, nil, nil},
		{[]int{0}, nil, nil},
		{[]int{1}, nil, []int{5}},
		{[]int{0}, []int{5}, nil},
		{[]int{1}, []int{5}, []int{6}},
		{[]int{0}, []int{5}, []int{6}},
		{[]int{1}, []int{5, 6}, nil},
		{[]int{0}, nil, []int{5, 6}},
		// As many in all as flags, but not of each.
		{[]int{1, 0}, []int{4, 5}, nil},
		{[]int{1, 0}, nil, []int{4, 5}},
		{[]int{0, 0, 1}, []int{4, 5}, []int{6}},
		{[]int{1, 1, 0}, []int{4}, []int{5, 6}},
		// One more or less of one.
		{[]int{1, 0, 1}, []int{4}, []int{6}},
		{[]int{1, 0, 1}, []int{4, 5, 7}, []int{6}},
		{[]int{1, 0, 1}, []int{4, 5}, nil},
		{[]int{1, 0, 1}, []int{4, 5}, []int{6, 7}},
		{make([]int, 400), nil, make([]int, 399)},
		{make([]int, 400), nil, make([]int, 401)},
		{make([]int, 400), []int{1}, make([]int, 400)},
		{slices.Repeat([]int{1}, 400), make([]int, 399), nil},
		{slices.Repeat([]int{1}, 400), make([]int, 400), []int{1}},
		// Too many, though each list fits the other ones.
		{make([]int, 401), nil, make([]int, 401)},
		{slices.Repeat([]int{1}, 401), make([]int, 401), nil},
		{slices.Repeat([]int{1, 0}, 201), make([]int, 201), make([]int, 201)},
		{append(make([]int, 400), 1), []int{1}, make([]int, 400)},
	} {
		got, ok := impl.WeaveData(c.flags, c.a, c.b)
		expectNoList(t, "WeaveData", got, ok)
	}
}

func TestAllSmallWeaves(t *testing.T) {
	for _, flags := range listsOf(5, []int{0, 1, 10006}) {
		for a := range 7 {
			for b := range 7 {
				expectWoven(t, flags, []int{0, 1, 2, 3, 4, 5}[:min(a, 6)], []int{10006, 10005, 10004, 10003, 10002, 10001}[:min(b, 6)])
			}
		}
	}
}

func TestLimitsOfMovedNumbers(t *testing.T) {
	for _, count := range []int{1, 2, 399, 400, 401, 402, 1000} {
		for _, n := range []int{0, 10006, -1, 10007, math.MinInt, math.MaxInt} {
			for _, place := range []int{0, count / 2, count - 1} {
				list, at := make([]int, count), rand.New(rand.NewSource(int64(count))).Perm(count)
				list[place] = n
				valid := areWithin(list, 10007)
				expectMoved(t, list, at)
				expectMoved(t, list, nil)
				expectIndices(t, at)
				flags := slices.Repeat([]int{1}, count)
				for _, lists := range [][3][]int{{flags, list, nil}, {make([]int, count), nil, list}} {
					got, ok := impl.WeaveData(lists[0], lists[1], lists[2])
					expectListIf(t, valid, "WeaveData", got, ok, list)
				}
				flags[place] = n
				got, ok := impl.WeaveData(flags, slices.Repeat([]int{3}, count-1), []int{4})
				expectListIf(t, valid && n == 0, "WeaveData", got, ok, slices.Replace(slices.Repeat([]int{3}, count), place, place+1, 4))
				got, ok = impl.WeaveData(flags, slices.Repeat([]int{3}, count), nil)
				expectListIf(t, valid && n != 0, "WeaveData", got, ok, slices.Repeat([]int{3}, count))
			}
		}
	}
}

// must returns the list of a call that is to return one.
func must(t *testing.T) func(list []int, ok bool) []int {
	return func(list []int, ok bool) []int {
		t.Helper()
		if !ok {
			t.Error("a list is not taken")
		}
		return list
	}
}

func TestWhatIsScatteredIsGatheredAgain(t *testing.T) {
	source := rand.New(rand.NewSource(7))
	for round := range 2000 {
		count := []int{source.Intn(9), source.Intn(401), 400}[round%3]
		at, data := source.Perm(count), randomNumbers(source, count)
		expectIndices(t, at)
		expectMoved(t, data, at)
		scattered := must(t)(impl.ScatterData(data, at))
		expectList(t, "what is gathered again", must(t)(impl.GatherData(scattered, at)), true, data)
		expectList(t, "what is scattered again", must(t)(impl.ScatterData(must(t)(impl.GatherData(data, at)), at)), true, data)
		places := must(t)(impl.InvertIndices(at))
		expectList(t, "what is gathered where indices stand", must(t)(impl.GatherData(data, places)), true, scattered)
		expectList(t, "indices inverted twice", must(t)(impl.InvertIndices(places)), true, at)
		if count > 0 {
			at[source.Intn(count)] = source.Intn(count+2) - 1
			expectIndices(t, at)
			expectMoved(t, data, at)
		}
	}
}

func TestSegmentsAreTurnedAndSortedBack(t *testing.T) {
	source := rand.New(rand.NewSource(8))
	for range 2000 {
		s := randomSegments(source)
		expectSorted(t, s)
		turned, sorted := segments{}, segments{}
		for _, segment := range s {
			back := slices.Clone(segment)
			slices.Reverse(back)
			turned = append(turned, back)
			sorted = append(sorted, slices.Sorted(slices.Values(segment)))
		}
		turns, sorts := must(t)(impl.TurnSegments(s.lengths())), must(t)(impl.SortSegments(s.lengths(), s.data()))
		expectList(t, "turned", must(t)(impl.GatherData(s.data(), turns)), true, turned.data())
		expectList(t, "turned back", must(t)(impl.GatherData(turned.data(), turns)), true, s.data())
		expectList(t, "sorted", must(t)(impl.GatherData(s.data(), sorts)), true, sorted.data())
		expectList(t, "sorted back", must(t)(impl.ScatterData(sorted.data(), sorts)), true, s.data())
	}
}

func TestSegmentsOfAnyNumbersArePicked(t *testing.T) {
	source := rand.New(rand.NewSource(9))
	for range 2000 {
		s := randomSegments(source)
		at := []int{}
		for range source.Intn(12) {
			at = append(at, source.Intn(len(s)+1+source.Intn(2))-source.Intn(2))
		}
		expectPicked(t, s, at)
		if len(s) > 0 {
			expectPicked(t, s, source.Perm(len(s)))
		}
	}
}

func TestWhatIsPackedIsWovenAgain(t *testing.T) {
	source := rand.New(rand.NewSource(10))
	for range 2000 {
		data := randomNumbers(source, source.Intn(30))
		flags := randomNumbers(source, len(data))
		others := []int{}
		for _, flag := range flags {
			others = append(others, max(1-flag, 0))
		}
		_, a, _ := impl.PackSegments([]int{len(data)}, data, flags)
		_, b, _ := impl.PackSegments([]int{len(data)}, data, others)
		got, ok := impl.WeaveData(flags, a, b)
		expectList(t, "WeaveData", got, ok, data)
	}
}

func TestMovedNumbersAreNewMemory(t *testing.T) {
	for _, c := range [][4][]int{
		{{2, 0, 1}, {3, 4, 5}, {2, 0, 1}, {1, 1, 1}},
		{{1}, {1}, {0}, {1}},
		{{1, 1, 1, 0}, {6, 6, 5}, {0, 1, 2}, {9, 1, 2}},
		{{0, 3}, {6, 6, 5}, {1, 0, 1}, {9, 1, 2}},
		{{0, 0}, nil, nil, nil},
	} {
		var given, before [][]int
		for i, list := range c {
			c[i] = roomy(list, -7)
			given = append(given, c[i][:cap(c[i])])
			before = append(before, slices.Clone(given[i]))
		}
		lengths, data, at, flags := c[0], c[1], c[2], c[3]
		none := roomy([]int{}, -7)
		given, before = append(given, none[:3]), append(before, []int{-7, -7, -7})
		var results [][]int
		for range 2 {
			gathered, _ := impl.GatherData(data, at)
			scattered, _ := impl.ScatterData(data, at)
			places, _ := impl.InvertIndices(at)
			turned, _ := impl.TurnSegments(lengths)
			sorted, _ := impl.SortSegments(lengths, data)
			counts, picked, _ := impl.PickSegments(lengths, data, make([]int, 1))
			woven, _ := impl.WeaveData(flags, data, none)
			back, _ := impl.WeaveData(make([]int, len(data)), none, data)
			impl.IsPermutation(at)
			results = append(results, gathered, scattered, places, turned, sorted, counts, picked, woven, back)
		}
		for i, list := range results {
			results[i] = list[:cap(list)]
		}
		if !markAll(results) {
			t.Errorf("results of %v share memory", c)
		}
		if !slices.EqualFunc(given, before, slices.Equal) {
			t.Errorf("the arguments %v are changed to %v", before, given)
		}
	}
}
