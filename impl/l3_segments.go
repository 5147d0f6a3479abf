package impl

// MaxData limits flat data.
const MaxData = 400

// SegmentsValid reports whether lengths are those of data.
func SegmentsValid(lengths []int, data []int) bool { return false }

// StartsOf returns where segments begin.
func StartsOf(lengths []int) ([]int, bool) { return nil, false }

// SumSegments returns the sums of segments.
func SumSegments(lengths []int, data []int) ([]int, bool) { return nil, false }

// MostSegments returns the greatest numbers of segments.
func MostSegments(lengths []int, data []int) ([]int, bool) { return nil, false }

// ScanSegments returns, for each number, the sum of those ahead of it in its segment.
func ScanSegments(lengths []int, data []int) ([]int, bool) { return nil, false }

// SpreadValues returns each value as often as its segment is long.
func SpreadValues(lengths []int, values []int) ([]int, bool) { return nil, false }

// CountUp returns the numbers from 0 on in each segment.
func CountUp(lengths []int) ([]int, bool) { return nil, false }

// PackSegments returns lengths and data of the numbers whose flag is not 0.
func PackSegments(lengths []int, data []int, flags []int) ([]int, []int, bool) {
	return nil, nil, false
}

// MergeLengths returns the lengths of segments of segments.
func MergeLengths(outer []int, inner []int) ([]int, bool) { return nil, false }
