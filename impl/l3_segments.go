package impl

import (
	"iter"
	"slices"
	"sync"
)

// MaxData limits flat data.
const MaxData = 400

// isDataUpTo reports whether a list is one of data whose numbers go up to the greatest one.
func isDataUpTo(list []int, greatest int) bool {
	return len(list) <= MaxData && areNumbersUpTo(list, len(list), greatest)
}

// areLengths reports whether a list cuts some data into segments.
func areLengths(list []int) bool {
	// How many and how great they are is checked ahead of their sum, which could overflow otherwise.
	return isDataUpTo(list, MaxData) && sumOf(list) <= MaxData
}

// segmentsOf tells the segments of a list. They get no room behind them, since the next ones lie there.
func segmentsOf[T any](lengths []int, list []T) iter.Seq[[]T] {
	return func(yield func([]T) bool) {
		for begin, end := range spansOf(lengths) {
			if !yield(list[begin:end:end]) {
				return
			}
		}
	}
}

// foldList joins the elements of a list, one after another, to what it begins with.
func foldList[T, R any](list []T, result R, join func(R, T) R) R {
	for _, element := range list {
		result = join(result, element)
	}
	return result
}

// foldSegments does foldList to each segment of a list.
func foldSegments[T, R any](lengths []int, list []T, first R, join func(R, T) R) []R {
	var results []R
	for segment := range segmentsOf(lengths, list) {
		results = append(results, foldList(segment, first, join))
	}
	return results
}

// addNumbers returns the sum of two numbers, from which Modulus is taken away.
func addNumbers(a int, b int) int {
	return (a + b) % Modulus
}

// scanNumbers puts, in place of each number, the sum of those ahead of it.
func scanNumbers(list []int) {
	sum := 0
	for i, n := range list {
		list[i] = sum
		sum = addNumbers(sum, n)
	}
}

// countUp puts the numbers from 0 on in a list.
func countUp(list []int) {
	for i := range list {
		list[i] = i
	}
}

// countFlag returns how many flags are not 0, with one more flag behind those that are counted.
func countFlag(count int, flag int) int {
	if flag == 0 {
		return count
	}
	return count + 1
}

// repeatEach returns each element of a list as often as its segment is long.
func repeatEach[T any](lengths []int, list []T) []T {
	var repeated []T
	for i, length := range lengths {
		for range length {
			repeated = append(repeated, list[i])
		}
	}
	return repeated
}

// SegmentsValid reports whether lengths are those of data.
func SegmentsValid(lengths []int, data []int) bool {
	return areLengths(lengths) && areNumbersUpTo(data, sumOf(lengths), Modulus-1)
}

// StartsOf returns where segments begin.
func StartsOf(lengths []int) ([]int, bool) {
	if !areLengths(lengths) {
		return nil, false
	}
	var starts []int
	for begin := range spansOf(lengths) {
		starts = append(starts, begin)
	}
	return starts, true
}

// SumSegments returns the sums of segments.
func SumSegments(lengths []int, data []int) ([]int, bool) {
	if !SegmentsValid(lengths, data) {
		return nil, false
	}
	return foldSegments(lengths, data, 0, addNumbers), true
}

// MostSegments returns the greatest numbers of segments.
func MostSegments(lengths []int, data []int) ([]int, bool) {
	if !SegmentsValid(lengths, data) {
		return nil, false
	}
	return foldSegments(lengths, data, 0, func(most int, n int) int { return max(most, n) }), true
}

// ScanSegments returns, for each number, the sum of those ahead of it in its segment.
func ScanSegments(lengths []int, data []int) ([]int, bool) {
	if !SegmentsValid(lengths, data) {
		return nil, false
	}
	sums := slices.Clone(data)
	var scans sync.WaitGroup
	for segment := range segmentsOf(lengths, sums) {
		scans.Add(1)
		go func() {
			defer scans.Done()
			scanNumbers(segment)
		}()
	}
	scans.Wait()
	return sums, true
}

// SpreadValues returns each value as often as its segment is long.
func SpreadValues(lengths []int, values []int) ([]int, bool) {
	if !areLengths(lengths) || !areNumbersUpTo(values, len(lengths), Modulus-1) {
		return nil, false
	}
	return repeatEach(lengths, values), true
}

// CountUp returns the numbers from 0 on in each segment.
func CountUp(lengths []int) ([]int, bool) {
	if !areLengths(lengths) {
		return nil, false
	}
	counted := make([]int, sumOf(lengths))
	for segment := range segmentsOf(lengths, counted) {
		countUp(segment)
	}
	return counted, true
}

// PackSegments returns lengths and data of the numbers whose flag is not 0.
func PackSegments(lengths []int, data []int, flags []int) ([]int, []int, bool) {
	if !SegmentsValid(lengths, data) || !SegmentsValid(lengths, flags) {
		return nil, nil, false
	}
	counts := foldSegments(lengths, flags, 0, countFlag)
	var packed []int
	for i, n := range data {
		if flags[i] != 0 {
			packed = append(packed, n)
		}
	}
	return counts, packed, true
}

// MergeLengths returns the lengths of segments of segments.
func MergeLengths(outer []int, inner []int) ([]int, bool) {
	if !areLengths(outer) || !areLengths(inner) || len(inner) != sumOf(outer) {
		return nil, false
	}
	return foldSegments(outer, inner, 0, func(sum int, length int) int { return sum + length }), true
}
