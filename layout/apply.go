package layout

import (
	"continuo/api"
)

// Apply applies a matrix to a block.
func Apply(m [][]int, b api.Block) (api.Block, api.Errno) {
	return fitted(func() api.Block {
		a := matrixOf(m)
		must(ValidBlock(b), api.ErrInvalid)
		must(len(b) == a.columns, api.ErrSize)
		out := a.times(b, len(b[0]))
		reduce(out, api.MaxSample)
		return out
	})
}

// Join is one matrix behind the other.
func Join(first, second [][]int) ([][]int, api.Errno) {
	return fitted(func() [][]int {
		a, b := matrixOf(first), matrixOf(second)
		must(b.columns == a.rows, api.ErrSize)
		out := b.times(a.weights, a.columns)
		reduce(out, api.MaxGain)
		return out
	})
}

// times returns, for each row of the matrix, the sums of its weights times what the rows of b have; b has a row for each column, all of that length.
func (m matrix) times(b [][]int, length int) [][]int {
	sums := zeros(m.rows, length)
	for at, w := range m.all() {
		sum := sums[at.row]
		for i, n := range b[at.column] {
			sum[i] += w * n
		}
	}
	return sums
}

// reduce brings sums of products to their scale, from -most to most.
func reduce(sums [][]int, most int) {
	for _, row := range sums {
		for i, sum := range row {
			row[i] = min(max(rounded(sum), -most), most)
		}
	}
}

// rounded is a number rounded by One.
func rounded(n int) int {
	if n < 0 {
		return -rounded(-n)
	}
	return (n + api.One/2) / api.One
}
